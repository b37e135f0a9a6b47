/- The walk of DescNames: the law answers true at every text and every number. -/
import Derived.Test.YtaghoicmfpndbaaNr
namespace Go.Proofs.Ytaghoicmfpndbaa
open Go.RowKit

set_option maxHeartbeats 1000000 in
theorem names_any (s : ByteArray) (off : Int) (w : World) :
    Calls Try.prog 4 #[.string s, .int .i64 off] w fun e w' => e = .returned (.bool true) ∧ Below w.heap.size w w' := by
  have hc := cut_any s
  have hz := cutS_size s
  generalize cutS s = t at *
  have HC := Lib.hid hc; clear hc
  have ht : t.size ≤ 100000 := by omega
  have hn := fun w => isName_any t w ht
  have hr := fun w => refIsName_any t w ht
  have hw := isWord_any t
  have hv := refIsWord_any t
  have ha := fun w => at_any t off w ht
  have hb := fun w => refAt_any t off w ht
  generalize nameF t = n at *
  generalize wordF t = m at *
  unfold plC at ha hb
  generalize clampN off t.size = k at *
  generalize lineA (byteAt t) k = x at *
  generalize colA (byteAt t) k = y at *
  have HN := Lib.hid hn; have HR := Lib.hid hr; have HW := Lib.hid hw; have HV := Lib.hid hv; have HA := Lib.hid ha; have HB := Lib.hid hb
  clear hn hr hw hv ha hb
  go_enter Try.func4, Try.ntmps4
  go_wp2_with (first
    | (go_at_call 8; (with_reducible refine (HC.out _).mono ?_); rintro e wq ⟨rfl, rfl⟩)
    | (go_at_call 14; (with_reducible refine (HN.out _).mono ?_); rintro e wq ⟨rfl, rfl⟩)
    | (go_at_call 15; (with_reducible refine (HR.out _).mono ?_); rintro e wq ⟨rfl, rfl⟩)
    | (go_at_call 16; (with_reducible refine (HW.out _).mono ?_); rintro e wq ⟨rfl, rfl⟩)
    | (go_at_call 17; (with_reducible refine (HV.out _).mono ?_); rintro e wq ⟨rfl, rfl⟩)
    | (go_at_call 18; (with_reducible refine (HA.out _).mono ?_); rintro e w1 ⟨rfl, h1⟩)
    | (go_at_call 12; (with_reducible refine (HB.out _).mono ?_); rintro e w2 ⟨rfl, h2⟩)
    | (go_at_call 13; (with_reducible refine (lives_any _).mono ?_); rintro e w3 ⟨rfl, h3⟩))
  go_ret
  exact ⟨rfl, (h1.trans (h2.mono h1.size)).trans (h3.mono (Nat.le_trans h1.size h2.size))⟩
end Go.Proofs.Ytaghoicmfpndbaa
