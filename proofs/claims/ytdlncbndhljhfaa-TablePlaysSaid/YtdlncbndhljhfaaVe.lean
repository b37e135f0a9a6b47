/- The document's Add, whatever it is given (layer 12). -/
import Derived.Test.YtdlncbndhljhfaaVd
namespace Go.Proofs.Ytdlncbndhljhfaa
open Go.RowKit

section
variable {tb most : Nat} {vL vW : Value} {ts : List (List Value)} {ws : List (Nat × Nat)} {w w' : World}
set_option maxHeartbeats 2000000 in
theorem dadd_bad {p : Option Addr} (cs : List Value) (ho : OkT cs) (hm : mayT cs = false) (w : World) :
    Calls Try.prog 48 #[.pointer p, .agg cs.toArray] w (GotB w.heap.size (.tuple #[.int .i64 0, .int .i64 1]) w) := by
  have hB : Below w.heap.size w (w.alloc (.cells cs.toArray 38)) := (Below.refl _ _).alloc (Nat.le_refl _) _
  have HB := Lib.hid hB
  have hl := (BT.new w cs).range
  have HI := Lib.hid (infoT.trans (congrArg some ho.len.symm))
  have HRG := Lib.hid hl
  clear hl
  have HM := Lib.hid (refMay_any cs ho (w.alloc (.cells cs.toArray 38)))
  rw [hm] at HM
  clear hB ho hm
  go_enter Try.func48, Try.ntmps48
  go_wp2_with (first
    | (with_reducible (show wpList _ _ _ _ _ _); refine wpList_load_mid rfl 38 (.tmp 3) rfl w.heap.size 0 rfl cs _ HRG.out Try.underlying38 rfl HI.out ?_)
    | (go_at_call 14; (with_reducible refine HM.out.mono ?_); rintro e w2 ⟨rfl, h2⟩; have H2 := Lib.hid h2; clear h2))
  go_ret2
  exact ⟨rfl, HB.out.trans (H2.out.mono HB.out.size)⟩
set_option maxHeartbeats 4000000 in
theorem dadd_full (cs : List Value) (ho : OkT cs) (hm : mayT cs = true) (h : TabR tb vL vW most ts ws w) (hge : most ≤ ts.length) :
    Calls Try.prog 48 #[.pointer (some ⟨tb, 0, none⟩), .agg cs.toArray] w (GotB w.heap.size (.tuple #[.int .i64 0, .int .i64 4]) w) := by
  have hB : Below w.heap.size w (w.alloc (.cells cs.toArray 38)) := (Below.refl _ _).alloc (Nat.le_refl _) _
  have HB := Lib.hid hB
  have hl := (BT.new w cs).range
  have HI := Lib.hid (infoT.trans (congrArg some ho.len.symm))
  have HRG := Lib.hid hl
  clear hl
  have HM := Lib.hid (refMay_any cs ho (w.alloc (.cells cs.toArray 38)))
  rw [hm] at HM
  have HT := Lib.hid h
  have t : decide ((most : Int) ≤ (ts.length : Int)) = true := by simp; omega
  clear hB ho hm h
  go_enter Try.func48, Try.ntmps48
  go_wp2_with (with_reducible (show wpList _ _ _ _ _ _); refine wpList_load_mid rfl 38 (.tmp 3) rfl w.heap.size 0 rfl cs _ HRG.out Try.underlying38 rfl HI.out ?_)
  refine HM.out.mono ?_
  rintro e w2 ⟨rfl, h2⟩
  dsimp only
  have H2 := Lib.hid (HB.out.trans (h2.mono HB.out.size))
  have HT2 := Lib.hid (HT.out.below H2.out)
  clear h2 HB HM HRG HT
  have c0 := HT2.out.cells.1
  have c1 := HT2.out.cells.2.1
  have hq : ∃ A cap, vL = .slice A ts.length cap := by
    rcases rowForm HT2.out.row with ⟨e1, e2⟩ | ⟨g, cap, e1⟩
    · exact ⟨none, 0, by rw [e2]; exact e1⟩
    · exact ⟨_, cap, e1⟩
  obtain ⟨A, capL, hAL⟩ := hq
  rw [hAL] at c1
  clear hAL HT2
  go_upto_region 3 with fail
  go_quiet (fail)
  go_wp2_with fail
  go_ret2
  exact ⟨rfl, H2.out.trans ⟨rfl, rfl, rfl, Nat.le_refl _, fun _ _ => rfl⟩⟩
end
/-- What Add answers, and the tasks behind it. -/
def addE (ts : List (List Value)) (most : Nat) (cs : List Value) : Int × Int := if mayT cs then (if most ≤ ts.length then (0, 4) else (ts.length, 0)) else (0, 1)
def addT (ts : List (List Value)) (most : Nat) (cs : List Value) : List (List Value) := if (addE ts most cs).2 = 0 then ts ++ [cs] else ts
theorem dadd_any {tb most : Nat} {vL vW : Value} {ts : List (List Value)} {ws : List (Nat × Nat)} {w : World} (cs : List Value) (ho : OkT cs) (h : TabR tb vL vW most ts ws w) (hmo : most ≤ 256) :
    Calls Try.prog 48 #[.pointer (some ⟨tb, 0, none⟩), .agg cs.toArray] w fun e w' => e = .returned (.tuple #[.int .i64 (addE ts most cs).1, .int .i64 (addE ts most cs).2]) ∧ ∃ vL', TabR tb vL' vW most (addT ts most cs) ws w' ∧ But (OwnR tb vL vW) w w' ∧ ∀ g, vL'.ownBlock = some g → vL.ownBlock = some g ∨ w.heap.size ≤ g := by
  unfold addT addE
  cases hm : mayT cs with
  | false =>
    refine (dadd_bad cs ho hm w).mono ?_
    rintro e w' ⟨rfl, hb⟩
    exact ⟨rfl, vL, h.below hb, But.of_below hb, fun g hg => .inl hg⟩
  | true =>
    simp only [↓reduceIte]
    by_cases hq : most ≤ ts.length
    · rw [if_pos hq]
      refine (dadd_full cs ho hm h hq).mono ?_
      rintro e w' ⟨rfl, hb⟩
      exact ⟨rfl, vL, h.below hb, But.of_below hb, fun g hg => .inl hg⟩
    · rw [if_neg hq]
      refine (dadd_ok cs ho hm h (by omega) hmo).mono ?_
      rintro e w' ⟨rfl, vL', ht, hb, hg⟩
      exact ⟨rfl, vL', ht, hb, fun g hg' => .inr (hg g hg')⟩
end Go.Proofs.Ytdlncbndhljhfaa
