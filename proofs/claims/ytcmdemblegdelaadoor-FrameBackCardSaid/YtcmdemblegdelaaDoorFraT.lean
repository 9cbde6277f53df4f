/-
  What Torn tells of an error: what errors.Is tells of it and the number 1.
  Conditions: none.
-/
import Derived.Test.YtcmdemblegdelaaDoorFraS
import Derived.Defers
import Derived.Recover
namespace Go.Proofs.YtcmdemblegdelaaDoor
open Go.RowKit

theorem catch_idle (w : World) :
    CallsD Tryd.prog 38 #[] .returning w fun e u' w' => e = .returned (.tuple #[]) ∧ u' = .returning ∧ w' = w := by
  refine callsD_of_wpS Tryd.func38 rfl fun c₀ cs hu => ?_
  apply wpS_region
  cases c₀
  simp_all [wpOpsS, go_sem, recoverD, Tryd.ntmps38, bodyPostS, results, Tryd.results38]

theorem torn_any {v : Value} {b : Bool} {w : World} (h : IsShort v b w) :
    Calls Tryd.prog 19 #[v] w fun e w' => e = .returned (.bool b) ∧ w' = w := by
  have HI := Lib.hid h; clear h
  have hmf : ∀ (fn : Fn) (first cap : Array Value) (w : World), (Instr.makeFunc fn first cap).run Tryd.prog w = .ok (.func fn first cap) w := fun _ _ _ _ => rfl
  go_enter_defers Tryd.func19, Tryd.ntmps19
  go_wp2_with fail
  unfold IsShort at HI
  refine HI.out.mono ?_
  rintro e w1 ⟨rfl, rfl⟩
  go_wp2
  refine leaves_cons (f := 38) (args := #[]) (by simp) (by simp [go_sem]) ?_
  refine (catch_idle _).mono ?_
  rintro e u' w'' ⟨rfl, rfl, rfl⟩
  simp [Leaves, settle, results, Tryd.results19, go_sem]
end Go.Proofs.YtcmdemblegdelaaDoor
