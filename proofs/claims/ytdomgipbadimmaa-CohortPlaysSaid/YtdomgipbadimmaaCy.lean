/- Locks, as the laws see them: New (layer 14). -/
import Derived.Test.YtdomgipbadimmaaCo
namespace Go.Proofs.Ytdomgipbadimmaa
open Go.RowKit
set_option maxRecDepth 100000

/-- What New gives. -/
def NewL (N : Nat) (w : World) (e : Ending) (w' : World) : Prop :=
  ∃ pb lb lab, e = .returned (.pointer (some ⟨pb, 0, none⟩)) ∧ CohL (fun k => w.heap.size ≤ k) pb lb lab (List.replicate N zCoh) w' ∧ Below w.heap.size w w'
theorem newL_mk {w w1 w2 : World} {g N : Nat} (h1 : But Nob w w1) (hg : w1.heap.size ≤ g) (hb : Blk w2 g 89 (pats (N * 4)).toArray) (h2 : But Nob w1 w2) : NewL N w (.returned (.pointer (some ⟨w2.heap.size, 0, none⟩))) (w2.alloc (.cells #[.slice (some ⟨g, 0, none⟩) N N] 91)) := by
  have hal : But Nob w2 (w2.alloc (.cells #[.slice (some ⟨g, 0, none⟩) N N] 91)) := (But.refl _ _).alloc _
  have hgl := hb.lt
  have hall := (h1.trans h2).trans hal
  have hs1 := h1.size; have hs2 := h2.size
  refine ⟨w2.heap.size, g, fun k => if k = g ∨ k = w2.heap.size then .locks else .no, rfl, ⟨?_, ⟨_, hb.but hal id, by simp [pats_length]; omega, fun i c hc => ?_⟩, by simp, by simp, by omega, fun k hk => ?_, fun k hk => ?_, fun i c hc => ?_⟩, hall.below (Nat.le_refl _) fun k _ q => q.elim⟩
  · rw [List.length_replicate]; exact Blk.new w2 _ _
  · rw [List.getElem?_replicate] at hc
    split at hc
    · rename_i hi
      cases hc
      refine ⟨.slice none 0 0, ⟨?_, ?_, ?_, ?_⟩, .inl ⟨rfl, rfl⟩⟩
      · rw [List.getElem?_toArray, pats_get (by omega)]; unfold pat; rw [if_pos (by omega)]; rfl
      · rw [List.getElem?_toArray, pats_get (by omega)]; unfold pat; rw [if_neg (by omega), if_neg (by omega)]; rfl
      · rw [List.getElem?_toArray, pats_get (by omega)]; unfold pat; rw [if_neg (by omega), if_neg (by omega)]; rfl
      · rw [List.getElem?_toArray, pats_get (by omega)]; unfold pat; rw [if_neg (by omega), if_pos (by omega)]
    · cases hc
  · simp only [World.alloc, Array.size_push] at hk
    rw [if_neg (by omega)]
  · by_cases q : k = g ∨ k = w2.heap.size
    · omega
    · rw [if_neg q] at hk; exact absurd rfl hk
  · rw [List.getElem?_replicate] at hc
    split at hc
    · cases hc; exact zCoh_ok
    · cases hc
set_option maxHeartbeats 4000000 in
theorem newL_any (n : Int) (N : Nat) (hN : min (max n 0) 16 = (N : Int)) (w : World) : Calls Try.prog 13 #[.int .i64 n] w (NewL N w) := by
  have hal : But Nob w (w.alloc (.cells #[.int .i64 (-1), .int .i64 0, .int .i64 0, .slice none 0 0] 89)) := (But.refl _ _).alloc _
  have P := Lib.hid (repeat_any w.heap.size 1 N _ (by omega) (Blk.new w 89 #[.int .i64 (-1), .int .i64 0, .int .i64 0, .slice none 0 0]))
  have HAL := Lib.hid hal
  clear hal
  have tail : ∀ g w2, (w.alloc (.cells #[.int .i64 (-1), .int .i64 0, .int .i64 0, .slice none 0 0] 89)).heap.size ≤ g → Blk w2 g 89 (pats (N * 4)).toArray → But Nob (w.alloc (.cells #[.int .i64 (-1), .int .i64 0, .int .i64 0, .slice none 0 0] 89)) w2 → NewL N w (.returned (.pointer (some ⟨w2.heap.size, 0, none⟩))) (w2.alloc (.cells #[.slice (some ⟨g, 0, none⟩) N N] 91)) := fun g w2 a b c => newL_mk HAL.out a b c
  have HT := Lib.hid tail
  clear tail
  rw [← hN] at P
  clear hN
  go_enter Try.func13, Try.ntmps13
  go_wp2_with (go_at_call 39; (with_reducible refine P.out.mono ?_); rintro e w2 ⟨g, rfl, hg, hb, hn⟩; have HG := Lib.hid hg; have HB := Lib.hid hb; have HN := Lib.hid hn; clear hg hb hn)
  go_ret
  exact HT.out _ _ HG.out HB.out HN.out
end Go.Proofs.Ytdomgipbadimmaa
