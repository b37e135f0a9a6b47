/- RingNobody's walk. -/
import Derived.Test.YtaoaoedhlihfaaaRa
namespace Go.Proofs.Ytaoaoedhlihfaaa
open Go.RowKit

section
variable {p : Option Nat} {w : World}
theorem RgP.head0 {b : Nat} (h : RgP (some b) none [] 0 w) : Rg b none [] 0 w := h
theorem firstP (h : RgP p none [] 0 w) : Calls Try.prog 24 #[ptr p] w fun e w' => e = .returned (.tuple #[.int .i64 0, .bool false]) ∧ w = w' := by
  cases p with
  | none => exact first_nil w
  | some b => exact first_none b w h.head0.head.1
theorem lastP (h : RgP p none [] 0 w) : Calls Try.prog 25 #[ptr p] w fun e w' => e = .returned (.tuple #[.int .i64 0, .bool false]) ∧ w = w' := by
  cases p with
  | none => exact last_nil w
  | some b => exact last_none b w h.head0.head.1
theorem atP (i : Int) (h : RgP p none [] 0 w) : Calls Try.prog 28 #[ptr p, .int .i64 i] w fun e w' => e = .returned (.tuple #[.int .i64 0, .bool false]) ∧ w = w' := by
  cases p with
  | none => exact at_nil i w
  | some b => exact at_no b 0 i w h.head0.head.1 (by omega)
theorem takeP (i : Int) (h : RgP p none [] 0 w) : Calls Try.prog 29 #[ptr p, .int .i64 i] w fun e w' => e = .returned (.tuple #[.int .i64 0, .bool false]) ∧ w = w' := by
  cases p with
  | none => exact take_nil i w
  | some b => exact take_bad b 0 i w h.head0.head.1 (by omega)
theorem backP (x : Int) (h : RgP p none [] 0 w) : Calls Try.prog 21 #[ptr p, .int .i64 x] w fun e w' => e = .returned (.bool false) ∧ w = w' := by
  cases p with
  | none => exact back_nil x w
  | some b => exact back_bad b none [] x w h.head0
theorem frontP (x : Int) (h : RgP p none [] 0 w) : Calls Try.prog 22 #[ptr p, .int .i64 x] w fun e w' => e = .returned (.bool false) ∧ w = w' := by
  cases p with
  | none => exact front_nil x w
  | some b => exact front_bad b none [] x w h.head0
theorem putP (i x : Int) (h : RgP p none [] 0 w) : Calls Try.prog 23 #[ptr p, .int .i64 i, .int .i64 x] w fun e w' => e = .returned (.bool false) ∧ w = w' := by
  cases p with
  | none => exact put_nil i x w
  | some b => exact put_bad b none [] 0 i x w h.head0 (.inr (.inr rfl))
theorem lenP (h : RgP p none [] 0 w) : Calls Try.prog 26 #[ptr p] w fun e w' => e = .returned (.int .i64 0) ∧ w = w' := by
  cases p with
  | none => exact len_nil w
  | some b => exact len_any b 0 w h.head0.head.1
theorem roomP (h : RgP p none [] 0 w) : Calls Try.prog 16 #[ptr p] w fun e w' => e = .returned (.int .i64 0) ∧ w = w' := by
  cases p with
  | none => exact room_nil w
  | some b => exact room_any b 0 w h.head0.head.2
theorem alikeP (i : Int) (h : RgP p none [] 0 w) : Calls Try.prog 19 #[ptr p, .slice none 0 0, .int .i64 i] w fun e w' => e = .returned (.bool true) ∧ But Nob w w' :=
  alike_any p none 0 none 0 0 (fun _ => 0) i w (by omega) (fun j hj => absurd hj (by omega)) h
theorem RgP.but {X : Nat → Prop} {w' : World} (h : RgP p none [] 0 w) (hb : But X w w') (hX : ∀ b, p = some b → ¬ X b) : RgP p none [] 0 w' := by
  cases p with
  | none => exact h
  | some b =>
    refine h.head0.but hb fun k hk => ?_
    rcases hk with rfl | hk
    · exact hX _ rfl
    · cases hk
end
/-- The three rows. -/
def Three3 (g b1 b2 : Nat) (w : World) : Prop := Blk w g 23 #[ptr none, ptr (some b1), ptr (some b2)] ∧ RgP (some b1) none [] 0 w ∧ RgP (some b2) none [] 0 w
theorem Three3.at_ {g b1 b2 : Nat} {w : World} (h : Three3 g b1 b2 w) {k : Nat} (hk : k < 3) : ∃ p, w.cell? ⟨g, k, none⟩ = some (ptr p) ∧ RgP p none [] 0 w := by
  obtain ⟨h0, h1, h2⟩ := h
  match k, hk with
  | 0, _ => exact ⟨none, h0.cell 0, rfl⟩
  | 1, _ => exact ⟨some b1, h0.cell 1, h1⟩
  | 2, _ => exact ⟨some b2, h0.cell 2, h2⟩
theorem Three3.but {g b1 b2 : Nat} {w w' : World} (h : Three3 g b1 b2 w) (hb : But Nob w w') : Three3 g b1 b2 w' := ⟨h.1.but hb id, h.2.1.but hb fun _ _ x => x, h.2.2.but hb fun _ _ x => x⟩
set_option maxRecDepth 100000 in
set_option maxHeartbeats 4000000 in
theorem nobody5_any (i x : Int) (w : World) :
    Calls Try.prog 6 #[.int .i64 i, .int .i64 x] w fun e w' => e = .returned (.bool true) ∧ Below w.heap.size w w' := by
  go_enter Try.func6, Try.ntmps6
  go_wp2_with fail
  refine (new_any 0 0 (by decide) w).mono ?_
  rintro e w1 ⟨rfl, hR1, hG1⟩
  have HR1 := Lib.hid hR1; have HG1 := Lib.hid hG1; clear hR1 hG1
  go_wp2_with fail
  refine (new_any (-5) 0 (by decide) w1).mono ?_
  rintro e w2 ⟨rfl, hR2, hG2⟩
  have HR2 := Lib.hid hR2; have HG2 := Lib.hid hG2; clear hR2 hG2
  go_wp2_with fail
  have hl1 := HR1.out.lt
  have hl2 := HR2.out.lt
  have hT : Hid (Three3 w2.heap.size w.heap.size w1.heap.size (w2.alloc (.cells #[.pointer none, .pointer (some ⟨w.heap.size, 0, none⟩), .pointer (some ⟨w1.heap.size, 0, none⟩)] 23))) :=
    ⟨Blk.new _ _ _, ((show RgP (some w.heap.size) none [] 0 w1 from HR1.out).but (HG2.out.alloc _) fun _ _ x => x), ((show RgP (some w1.heap.size) none [] 0 w2 from HR2.out).but ((But.refl Nob _).alloc _) fun _ _ x => x)⟩
  have hB : Hid (But Nob w (w2.alloc (.cells #[.pointer none, .pointer (some ⟨w.heap.size, 0, none⟩), .pointer (some ⟨w1.heap.size, 0, none⟩)] 23))) := (HG1.out.trans HG2.out).alloc _
  clear HR1 HR2 hl1 hl2 HG1 HG2
  go_loopw [21] (fun t wr => ∃ k : Nat, k ≤ 3 ∧ t = .int .i64 k ∧ Three3 w2.heap.size w.heap.size w1.heap.size wr ∧ But Nob w wr) (fun t _ => 3 - (intOf t).toNat)
  case atStart => exact ⟨0, by omega, rfl, hT.out, hB.out⟩
  case round =>
    obtain ⟨k, hk, rfl, h3, hG⟩ := hrel
    by_cases hlt : k < 3
    · obtain ⟨p, hc, hp⟩ := h3.at_ hlt
      have k0 : (0 : Int) ≤ (k : Int) := by omega
      have k1 : (k : Int) < 3 := by omega
      have HP := Lib.hid hp; have H3 := Lib.hid h3; have HG := Lib.hid hG; clear hp h3 hG
      go_wp2_with (first
        | (go_at_call 24; (with_reducible refine (firstP HP.out).mono ?_); rintro e wq ⟨rfl, rfl⟩)
        | (go_at_call 25; (with_reducible refine (lastP HP.out).mono ?_); rintro e wq ⟨rfl, rfl⟩)
        | (go_at_call 28; (with_reducible refine (atP i HP.out).mono ?_); rintro e wq ⟨rfl, rfl⟩)
        | (go_at_call 29; (with_reducible refine (takeP i HP.out).mono ?_); rintro e wq ⟨rfl, rfl⟩)
        | (go_at_call 21; (with_reducible refine (backP x HP.out).mono ?_); rintro e wq ⟨rfl, rfl⟩)
        | (go_at_call 22; (with_reducible refine (frontP x HP.out).mono ?_); rintro e wq ⟨rfl, rfl⟩)
        | (go_at_call 23; (with_reducible refine (putP _ x HP.out).mono ?_); rintro e wq ⟨rfl, rfl⟩)
        | (go_at_call 26; (with_reducible refine (lenP HP.out).mono ?_); rintro e wq ⟨rfl, rfl⟩)
        | (go_at_call 16; (with_reducible refine (roomP HP.out).mono ?_); rintro e wq ⟨rfl, rfl⟩)
        | (go_at_call 19; (with_reducible refine (alikeP i HP.out).mono ?_); rintro e w9 ⟨rfl, h9⟩; have H9 := Lib.hid h9; clear h9 hc))
      go_roundw
      case rel => exact ⟨k + 1, by omega, by go_num, H3.out.but H9.out, HG.out.trans H9.out⟩
      case measure => simp [intOf]; omega
    · obtain rfl : k = 3 := by omega
      have HG := Lib.hid hG; clear hG h3
      go_wp2_with (go_at_call 20; (with_reducible refine (lives5_any _).mono ?_); rintro e w9 ⟨rfl, h9⟩; have H9 := Lib.hid h9; clear h9)
      go_ret
      have hb := HG.out.below (Nat.le_refl _) fun _ _ x => x.elim
      exact ⟨rfl, hb.trans (H9.out.mono hb.size)⟩
end Go.Proofs.Ytaoaoedhlihfaaa
