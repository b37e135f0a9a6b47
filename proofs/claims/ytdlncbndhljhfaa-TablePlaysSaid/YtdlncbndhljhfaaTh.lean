/- Layer 12's lives. -/
import Derived.Test.YtdlncbndhljhfaaTl
namespace Go.Proofs.Ytdlncbndhljhfaa
open Go.RowKit

abbrev NoE : Nat → Prop := fun _ => False
set_option maxRecDepth 100000 in
set_option maxHeartbeats 8000000 in
theorem lives12_any (w : World) : Calls Try.prog 17 #[] w (GotB w.heap.size (.bool true) w) := by
  have HN := Lib.hid (lnew 2 2 (by omega) w w NoE (Below.refl _ _) (fun _ q => q.elim))
  have HSM := Lib.hid some_any
  have HAD : Hid (∀ (W : World) b c gl gn v ts ls, Liv w NoE b c gl gn v 2 ts ls W → ts.length < 2 → Calls Try.prog 19 #[.pointer (some ⟨b, 0, none⟩), .agg someT.toArray] W fun e W' => e = .returned (.tuple #[.int .i64 ts.length, .int .i64 0]) ∧ ∃ v', Liv w NoE b c gl gn v' 2 (ts ++ [someT]) ls W' ∧ But (Oth w NoE) W W') := fun W b c gl gn v ts ls h hl => ladd_ok someT someT_ok someT_may h hl
  have HAF : Hid (∀ (W : World) b c gl gn v ts ls, Liv w NoE b c gl gn v 2 ts ls W → 2 ≤ ts.length → Calls Try.prog 19 #[.pointer (some ⟨b, 0, none⟩), .agg someT.toArray] W fun e W' => e = .returned (.tuple #[.int .i64 0, .int .i64 4]) ∧ Liv w NoE b c gl gn v 2 ts ls W' ∧ But (Oth w NoE) W W') := fun W b c gl gn v ts ls h hl => ladd_full someT someT_ok someT_may h hl
  have h25 : fld someT 25 ≠ 8 := by decide
  have H25 := Lib.hid h25
  clear h25
  go_enter Try.func17, Try.ntmps17
  go_wp2_with fail
  refine HN.out.mono ?_
  rintro e w1 ⟨b, c, gl, gn, rfl, ht, -⟩
  dsimp only
  have HT1 := Lib.hid ht
  clear ht HN
  generalize someT = S at *
  go_wp2_with fail
  refine (HSM.out w1).mono ?_
  rintro e w2 ⟨rfl, h2⟩
  dsimp only
  have HA1 := Lib.hid (HAD.out w2 b c gl gn _ _ _ (HT1.out.on h2).1 (by simp))
  clear h2 HT1
  go_wp2_with fail
  refine HA1.out.mono ?_
  rintro e w3 ⟨rfl, v3, h3, -⟩
  dsimp only
  have HT3 := Lib.hid h3
  clear h3 HA1
  go_wp2_with fail
  refine (HSM.out w3).mono ?_
  rintro e w4 ⟨rfl, h4⟩
  dsimp only
  have HA2 := Lib.hid (HAD.out w4 b c gl gn _ _ _ (HT3.out.on h4).1 (by simp))
  clear h4 HT3
  go_wp2_with fail
  refine HA2.out.mono ?_
  rintro e w5 ⟨rfl, v5, h5, -⟩
  dsimp only
  have HT5 := Lib.hid h5
  clear h5 HA2
  go_wp2_with fail
  refine (HSM.out w5).mono ?_
  rintro e w6 ⟨rfl, h6⟩
  dsimp only
  have HA3 := Lib.hid (HAF.out w6 b c gl gn _ _ _ (HT5.out.on h6).1 (by simp))
  clear h6 HT5
  go_wp2_with fail
  refine HA3.out.mono ?_
  rintro e w7 ⟨rfl, h7, -⟩
  dsimp only
  have hj1 : Calls Try.prog 21 #[.pointer (some ⟨b, 0, none⟩), .int .i64 0, .int .i64 1] w7 fun e W' => e = .returned (.int .i64 0) ∧ Liv w NoE b c gl gn v5 2 [S, S] (updL (fun _ => []) 1 [0]) W' ∧ But (Oth w NoE) w7 W' := ljoin_ok 0 1 S h7 (by simp) rfl (by omega) H25.out (fun j _ => by simp)
  have HJ1 := Lib.hid hj1
  clear h7 HA3 hj1
  go_wp2_with fail
  refine HJ1.out.mono ?_
  rintro e w8 ⟨rfl, h8, -⟩
  dsimp only
  have hj2 : Calls Try.prog 21 #[.pointer (some ⟨b, 0, none⟩), .int .i64 1, .int .i64 1] w8 fun e W' => e = .returned (.int .i64 1) ∧ w8 = W' := join_same 1 h8.tab (by simp)
  have hjd : Calls Try.prog 24 #[.pointer (some ⟨b, 0, none⟩), .int .i64 1] w8 fun e W' => ∃ A cap, e = .returned (.slice A 1 cap) ∧ NumsIn W' A [0] ∧ Below w.heap.size w W' := (ljoined 1 h8 (by simp)).mono fun _ _ ⟨u, he, hm, hl, _⟩ => by
    obtain ⟨A, cap, rfl, hn⟩ := hm.nums
    exact ⟨A, cap, he, hn, hl.below⟩
  have HJ2 := Lib.hid hj2; have HJD := Lib.hid hjd
  clear h8 HJ1 hj2 hjd
  go_wp2_with (go_at_call 21; (with_reducible refine HJ2.out.mono ?_); rintro e wq ⟨rfl, rfl⟩)
  refine HJD.out.mono ?_
  rintro e w9 ⟨A, cap, rfl, hn, hb⟩
  dsimp only
  have ha : Below w9.heap.size w9 (w9.alloc (.cells #[.int .i64 0] 3)) := (Below.refl _ _).alloc (Nat.le_refl _) _
  have hn2 : NumsIn (w9.alloc (.cells #[.int .i64 0] 3)) (some ⟨w9.heap.size, 0, none⟩) [0] := fun i x hx => by
    match i, hx with
    | 0, hx => cases hx; exact ⟨_, 0, rfl, (Blk.new w9 3 #[.int .i64 0]).lt, (Blk.new w9 3 #[.int .i64 0]).cell 0⟩
    | i + 1, hx => simp at hx
  have hsm : Calls Try.prog 46 #[.slice A 1 cap, .slice (some ⟨w9.heap.size, 0, none⟩) 1 1] (w9.alloc (.cells #[.int .i64 0] 3)) (GotB (w9.alloc (.cells #[.int .i64 0] 3)).heap.size (.bool true) (w9.alloc (.cells #[.int .i64 0] 3))) := same04_yes A (some ⟨w9.heap.size, 0, none⟩) [0] cap 1 _ (by simp) (hn.below ha) hn2
  have HSAME := Lib.hid hsm
  have HBB := Lib.hid (hb.trans (ha.mono hb.size))
  clear hn hb ha hn2 hsm HJD HJ2
  go_wp2_with (go_at_call 46; (with_reducible refine HSAME.out.mono ?_); rintro e w10 ⟨rfl, h10⟩; have H10 := Lib.hid h10; clear h10)
  go_ret
  exact ⟨rfl, HBB.out.trans (H10.out.mono HBB.out.size)⟩
end Go.Proofs.Ytdlncbndhljhfaa
