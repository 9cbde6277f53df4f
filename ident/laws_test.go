package ident_test

import (
	"encoding/hex"
	"math"
	"math/big"
	"regexp"
	"strconv"
	"strings"
	"testing"

	"selkie/api"
	"selkie/ident"
	"selkie/octet"
)

// shown is bytes as digits.
func shown(s string) string {
	return hex.EncodeToString([]byte(s))
}

// TestBack: promise 5.3, Parse of each Text and Read of each Write give the id again; there is no other id.
func TestBack(t *testing.T) {
	for origin := range api.MaxOrigins {
		t.Run(strconv.Itoa(origin), func(t *testing.T) {
			t.Parallel()
			for seq := uint32(1); seq <= maxCount; seq++ {
				id := api.Id{Origin: origin, Seq: seq}
				if got, err := ident.Parse(ident.Text(id)); got != id || err != nil {
					t.Fatalf("Parse of Text of %v, %q: %v, %v", id, ident.Text(id), got, err)
				}
				r := octet.New(ident.Write(id))
				if got := ident.Read(r); got != id || r.End() != nil {
					t.Fatalf("Read of Write of %v, % X: %v, %v", id, ident.Write(id), got, r.End())
				}
			}
		})
	}
}

// seqs are Seqs around the least and the greatest one, and around where the number of digits or bytes changes.
func seqs() []uint32 {
	var out []uint32
	for _, v := range []uint32{2, 10, 100, 256, 300, 1000, 10000, 65536, 100000, 1000000, 1040000, 1048000, 1048500, 1048570, maxCount - 1} {
		out = append(out, v-1, v, v+1)
	}
	return out
}

// TestBackTags: promise 5.3, ReadTag of WriteTag gives the tag again.
func TestBackTags(t *testing.T) {
	for origin := range api.MaxOrigins {
		for _, seq := range seqs() {
			for n := range api.MaxOps {
				tag := api.Tag{Id: api.Id{Origin: origin, Seq: seq}, N: n}
				r := octet.New(ident.WriteTag(tag))
				if got := ident.ReadTag(r); got != tag || r.End() != nil {
					t.Errorf("ReadTag of WriteTag of %v, % X: %v, %v", tag, ident.WriteTag(tag), got, r.End())
				}
			}
		}
	}
}

// anyTags are tags with fields that are valid and such that are not, in no order.
func anyTags() []api.Tag {
	var out []api.Tag
	for _, n := range []int{3, -1, math.MaxInt, 15, 0, math.MinInt} {
		for _, origin := range []int{7, math.MinInt, 0, 8, -1, math.MaxInt, 1} {
			for _, seq := range []uint32{300, 0, math.MaxUint32, 1, maxCount} {
				out = append(out, api.Tag{Id: api.Id{Origin: origin, Seq: seq}, N: n})
			}
		}
	}
	return out
}

// checkOrder holds compare to be a total order of values that are all different.
func checkOrder[T comparable](t *testing.T, name string, values []T, compare func(a, b T) int) {
	t.Helper()
	for _, a := range values {
		for _, b := range values {
			c := compare(a, b)
			if c < -1 || c > 1 || (c == 0) != (a == b) || compare(b, a) != -c {
				t.Errorf("%s(%v, %v): %d; the other way round %d", name, a, b, c, compare(b, a))
			}
			if c > 0 {
				continue
			}
			for _, d := range values {
				if compare(b, d) <= 0 && compare(a, d) > 0 {
					t.Errorf("%s: %v, %v and %v are in order, but not the first and the last", name, a, b, d)
				}
			}
		}
	}
}

// TestOrder: promise 5.3, Compare is a total order, and CompareTag is one, too.
func TestOrder(t *testing.T) {
	var ids []api.Id
	for _, tag := range anyTags() {
		if tag.N == 0 {
			ids = append(ids, tag.Id)
		}
	}
	checkOrder(t, "Compare", ids, ident.Compare)
	checkOrder(t, "CompareTag", anyTags(), ident.CompareTag)
}

// TestCompareTagLikeCompare: promise 5.2, tags with the same N are ordered like their ids, and those with the same id like their Ns.
func TestCompareTagLikeCompare(t *testing.T) {
	for _, a := range anyTags() {
		for _, b := range anyTags() {
			got := ident.CompareTag(a, b)
			if a.N == b.N && got != ident.Compare(a.Id, b.Id) {
				t.Errorf("CompareTag(%v, %v): %d; Compare of the ids: %d", a, b, got, ident.Compare(a.Id, b.Id))
			}
			if a.Id == b.Id && got != big.NewInt(int64(a.N)).Cmp(big.NewInt(int64(b.N))) {
				t.Errorf("CompareTag(%v, %v): %d, with the same id", a, b, got)
			}
		}
	}
}

// wholeText holds of exactly the Texts, written out digit by digit: the Seqs of up to six digits, and those of seven up to 1048576.
var wholeText = regexp.MustCompile(`^[0-7]\.(?:[1-9][0-9]{0,5}|10[0-3][0-9]{4}|104[0-7][0-9]{3}|1048[0-4][0-9]{2}|10485[0-6][0-9]|104857[0-6])\z`)

// startsText holds of exactly the proper prefixes of Texts that are no Texts; a Text without its last digits is one itself.
var startsText = regexp.MustCompile(`^(?:[0-7]\.?)?\z`)

// expected is what the chapter says of parsing s: the id, or an error and its offset.
func expected(s string) (api.Id, int, api.Errno) {
	for at := range len(s) {
		if !wholeText.MatchString(s[:at+1]) && !startsText.MatchString(s[:at+1]) {
			return api.Id{}, at, api.ErrField
		}
	}
	if startsText.MatchString(s) {
		return api.Id{}, len(s), api.ErrShort
	}
	seq, _ := new(big.Int).SetString(s[2:], 10)
	return api.Id{Origin: strings.IndexByte("01234567", s[0]), Seq: uint32(seq.Uint64())}, 0, api.OK
}

// checkExpected holds what Parse says of s, and that s is the Text of what it is parsed to.
func checkExpected(t *testing.T, s string) {
	t.Helper()
	id, at, e := expected(s)
	checkParse(t, s, id, at, e)
	if e == api.OK && ident.Text(id) != s {
		t.Errorf("Parse(%q): %v, whose Text is %q", s, id, ident.Text(id))
	}
}

// short is the strings of up to n of these bytes.
func short(bytes string, n int) []string {
	out := []string{""}
	for from := 0; n > 0; n-- {
		to := len(out)
		for _, s := range out[from:to] {
			for _, b := range []byte(bytes) {
				out = append(out, s+string([]byte{b}))
			}
		}
		from = to
	}
	return out
}

// TestParseShortStrings: promises 5.1 and 5.3, all short strings of telling bytes.
func TestParseShortStrings(t *testing.T) {
	whole := 0
	for _, s := range short("0179.8/:", 5) {
		checkExpected(t, s)
		if _, _, e := expected(s); e == api.OK {
			whole++
		}
	}
	if whole < 100 {
		t.Errorf("only %d of these are Texts, too few to tell anything", whole)
	}
}

// TestParseBytes: promise 5.1, each byte at each place where a Text may go on.
func TestParseBytes(t *testing.T) {
	for _, s := range []string{"", "2", "2.", "2.1", "2.30", "7.104857", "7.104858", "0.999999", "2.1048576", "2.1048577", "8", "2.0"} {
		for b := range 256 {
			for _, rest := range []string{"", ".", "1", "0.1"} {
				checkExpected(t, s+string([]byte{byte(b)})+rest)
			}
		}
	}
}

// TestParseChanged: promises 5.1 and 5.3, Texts of which one byte is changed to each other value, left out, or put in, or that are cut off.
func TestParseChanged(t *testing.T) {
	for _, text := range []string{"0.1", "2.300", "7.1048576", "5.1048499", "3.999999"} {
		for at := range text {
			checkExpected(t, text[:at])
			checkExpected(t, text[at:])
			checkExpected(t, text[:at]+text[at+1:])
			for v := range 256 {
				one := string([]byte{byte(v)})
				checkExpected(t, text[:at]+one+text[at+1:])
				checkExpected(t, text[:at]+one+text[at:])
			}
		}
	}
}

// TestParseSeqs: promise 5.1, all Seqs of seven digits around MaxCount, and others, with a digit behind.
func TestParseSeqs(t *testing.T) {
	for _, origin := range []string{"0.", "7.", "8."} {
		for _, from := range []int{0, 99900, 999900, 1039900, 1047900, 1048400, 1048500, 1099900, 1999900, 9999900} {
			for seq := from; seq < from+200; seq++ {
				s := origin + strconv.Itoa(seq)
				checkExpected(t, s)
				checkExpected(t, s+"0")
				checkExpected(t, s+"9.")
			}
		}
	}
}

// checkCode holds what Read or ReadTag gave of s: what is encoded as the bytes that were decoded, or the zero value beside an error.
func checkCode[T comparable](t *testing.T, s string, r *octet.Reader, got T, code string) {
	t.Helper()
	var none T
	if r.Err() == nil && (code == "" || code != s[:r.At()]) || r.Err() != nil && got != none {
		t.Errorf("% X is decoded to %v, which is encoded as % X, beside %v", s, got, code, r.Err())
	}
}

// TestReadShortStrings: promises 5.2 and 5.3, all short strings of telling bytes: none but what Write and WriteTag return is decoded.
func TestReadShortStrings(t *testing.T) {
	ids, tags := 0, 0
	for _, s := range short("\x00\x01\x02\x07\x08\x0f\x10", 6) {
		r := octet.New(s)
		id := ident.Read(r)
		checkCode(t, s, r, id, ident.Write(id))
		if r.End() == nil {
			ids++
		}
		r = octet.New(s)
		tag := ident.ReadTag(r)
		checkCode(t, s, r, tag, ident.WriteTag(tag))
		if r.End() == nil {
			tags++
		}
	}
	if ids < 100 || tags < 100 {
		t.Errorf("only %d of these are ids and %d tags, too few to tell anything", ids, tags)
	}
}
