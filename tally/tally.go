// Package tally is layer 1: integer arithmetic within bounds. See shared/doc/01-tally.md.
package tally

import "selkie/api"

const (
	maxAmount = 1 << 50
	maxSize   = 1 << 40
	maxTerms  = 64 // of one Sum
)

// integer is any integer type.
type integer interface {
	~int | ~int8 | ~int16 | ~int32 | ~int64 |
		~uint | ~uint8 | ~uint16 | ~uint32 | ~uint64 | ~uintptr
}

// within tells whether each of the values is from least to most.
func within[T integer](least, most T, values ...T) bool {
	for _, v := range values {
		if v < least || v > most {
			return false
		}
	}
	return true
}

// bounded is the result v, or ErrOver if it is not from least to most.
func bounded[T integer](least, most, v T) (T, api.Errno) {
	if !within(least, most, v) {
		return 0, api.ErrOver
	}
	return v, api.OK
}

// Add is the sum of two counts.
func Add(a, b uint32) (uint32, api.Errno) {
	if !within(0, api.MaxCount, a, b) {
		return 0, api.ErrRange
	}
	return bounded(0, api.MaxCount, a+b)
}

// Next is the count after a.
func Next(a uint32) (uint32, api.Errno) {
	return Add(a, 1)
}

// Sum is the sum of all counts of a list.
func Sum(l []uint32) (uint32, api.Errno) {
	if len(l) > maxTerms {
		return 0, api.ErrLong
	}
	total := uint32(0)
	for _, n := range l {
		var e api.Errno
		if total, e = Add(total, n); e != api.OK {
			return 0, e
		}
	}
	return total, api.OK
}

// Plus is the sum of two amounts.
func Plus(a, b int64) (int64, api.Errno) {
	if !within(-maxAmount, maxAmount, a, b) {
		return 0, api.ErrRange
	}
	return bounded(-maxAmount, maxAmount, a+b)
}

// Times is the product of two sizes.
func Times(a, b int) (int, api.Errno) {
	if !within(0, maxSize, a, b) {
		return 0, api.ErrRange
	}
	// Two sizes may have a product that wraps round to a size, so the bound is divided instead.
	if b != 0 && a > maxSize/b {
		return 0, api.ErrOver
	}
	return a * b, api.OK
}

// Ceil is the quotient of two sizes, rounded up.
func Ceil(a, b int) (int, api.Errno) {
	if !within(0, maxSize, a, b) || b == 0 {
		return 0, api.ErrRange
	}
	q := a / b
	if a%b != 0 {
		q++
	}
	return q, api.OK
}
