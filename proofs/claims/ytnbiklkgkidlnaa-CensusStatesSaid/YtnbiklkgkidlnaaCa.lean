/- layer 35 (census): rows of numbers; the document's Same. -/
import Derived.Test.YtnbiklkgkidlnaaBu
import Derived.RegionTactic
import Derived.ChangeAlike
import Derived.Deep.MidRow
import Derived.Deep.Cut
import Derived.Deep.CutRange
import Derived.Deep.CutBlock
import Derived.Deep.DeepCutAuto
import Derived.Deep.LoopGhost
import Derived.OwnWalkIn
import Derived.TacticsInMore
namespace Go.Proofs.Ytnbiklkgkidlnaa
open Go.RowKit Go.Maps
set_option maxRecDepth 100000

def W64 (x : Int) : Prop := (Lit.int .i64 x).wf = true
/-- a row of numbers that may be read. -/
def RowN (B : Nat) (w : World) (A : Option Addr) (l : List Int) : Prop := ∀ i (hi : i < l.length), ∃ b off, A = some ⟨b, off, none⟩ ∧ b < B ∧ w.cell? ⟨b, off + i, none⟩ = some (.int .i64 l[i])
theorem RowN.below {B : Nat} {w w' : World} {A : Option Addr} {l : List Int} (h : RowN B w A l) (hb : Below B w w') : RowN B w' A l := fun i hi => by
  obtain ⟨b, off, e, hlt, hc⟩ := h i hi
  exact ⟨b, off, e, hlt, (hb.cell (p := ⟨b, off + i, none⟩) hlt).trans hc⟩
theorem RowN.mono {B B' : Nat} {w : World} {A : Option Addr} {l : List Int} (h : RowN B w A l) (hB : B ≤ B') : RowN B' w A l := fun i d => by
  obtain ⟨b, off, e, hlt, hr⟩ := h i d
  exact ⟨b, off, e, by omega, hr⟩
theorem RowN.take {B : Nat} {w : World} {A : Option Addr} {l : List Int} (h : RowN B w A l) (n : Nat) : RowN B w A (l.take n) := fun i hi => by
  rw [List.length_take] at hi
  obtain ⟨b, off, e, hlt, hr⟩ := h i (by omega)
  exact ⟨b, off, e, hlt, by rw [List.getElem_take]; exact hr⟩
theorem infoI : (Try.prog.info? 3).map (fun i => (i.zero, i.size, i.bytes)) = some (some (.int .i64 0), 1, 8) := by kernel_rfl
theorem zeroI (w : World) : (zeroValue 3).run Try.prog w = .ok (.int .i64 0) w := by kernel_rfl
/-- a row of numbers of the call's own. -/
abbrev OwnN (B : Nat) (w : World) (v : Value) (l : List Int) : Prop := w.ownsRow B 3 1 v l.length (l.map (Value.int .i64))
theorem info_partsN {t : TypeId} {z : Option Value} {s b : Nat} (h : (Try.prog.info? t).map (fun i => (i.zero, i.size, i.bytes)) = some (z, s, b)) : ∃ i, Try.prog.info? t = some i ∧ i.zero = z ∧ i.size = s ∧ i.bytes = b := by
  match hi : Try.prog.info? t with
  | none => rw [hi] at h; cases h
  | some i => rw [hi] at h; simp at h; exact ⟨i, rfl, h.1, h.2.1, h.2.2⟩
theorem grownBy_below {w w' : World} (h : Below w.heap.size w w') : w.grownBy w' none :=
  ⟨h.os, h.tape, h.output, h.size, fun k hk _ => h.block k hk⟩
theorem ownN_on {w w' : World} {B : Nat} {v : Value} {l : List Int} (h : OwnN B w v l) (hb : Below w.heap.size w w') : OwnN B w' v l :=
  h.kept (row := none) ⟨hb.os, hb.tape, hb.output, hb.size, fun j hj _ => hb.block j hj⟩ (by cases v.ownBlock <;> simp)
theorem ownN_row {w : World} {B : Nat} {v : Value} {l : List Int} (h : OwnN B w v l) : ∃ A c, v = .slice A l.length c ∧ l.length ≤ c ∧ RowN w.heap.size w A l := by
  have h' := h
  rcases h.2 with ⟨rfl, hn⟩ | ⟨g, cap, cur, rfl, hg, hh, hnc, hcm, hcs, ht⟩
  · exact ⟨none, 0, by rw [hn], by omega, fun i hi => absurd hi (by omega)⟩
  · refine ⟨_, cap, rfl, hnc, fun i hi => ⟨g, 0, rfl, (h'.lt g rfl).2, ?_⟩⟩
    rw [cell_of_row w g _ cur _ (0, 0) hh, Nat.zero_add]
    have e : (cur.toList.take (l.length * 1))[i]? = (l.map (Value.int .i64))[i]? := by rw [ht]
    rw [List.getElem?_take, if_pos (by omega), List.getElem?_map, List.getElem?_eq_getElem hi] at e
    rw [← Array.getElem?_toList]; exact e
set_option maxHeartbeats 4000000 in
theorem same4_any (A A2 : Option Addr) (l : List Int) (n c c2 : Nat) (hn : l.length = n) (hl : n ≤ 1000000) (w : World) (h : RowN w.heap.size w A l) (h2 : RowN w.heap.size w A2 l) :
    Calls Try.prog 10 #[.slice A n c, .slice A2 n c2] w fun e w' => e = .returned (.bool true) ∧ Below w.heap.size w w' := by
  have H := Lib.hid h; have H2 := Lib.hid h2; have HN := Lib.hid hn
  clear h h2 hn
  have t0 : ((n : Int) != (n : Int)) = false := by simp
  go_enter Try.func10, Try.ntmps10
  go_wp2_with fail
  go_loopw [13] (fun iv wr => ∃ k : Nat, iv = .int .i64 k ∧ k ≤ n ∧ Below w.heap.size w wr) (fun iv _ => n - (intOf iv).toNat)
  case atStart => exact ⟨0, rfl, Nat.zero_le _, Below.refl _ _⟩
  case round =>
    obtain ⟨k, rfl, hk, hb⟩ := hrel
    have HB := Lib.hid hb
    by_cases hlt : k < n
    · obtain ⟨b, o, rfl, -, c1⟩ := (H.out.below hb) k (by rw [HN.out]; exact hlt)
      obtain ⟨b', o', rfl, -, c2⟩ := (H2.out.below hb) k (by rw [HN.out]; exact hlt)
      generalize l[k]'(by rw [HN.out]; exact hlt) = z at *
      have k0 : (0 : Int) ≤ (k : Int) := by omega
      have k1 : (k : Int) < (n : Int) := by omega
      have t1 : (z != z) = false := by simp
      clear hb
      go_upto_region 6 with fail
      go_region
      go_wp2_with fail
      go_roundw
      case rel => exact ⟨k + 1, by go_num, by omega, HB.out.os, HB.out.tape, HB.out.output, HB.out.size, HB.out.block⟩
      case measure => simp [intOf]; omega
    · obtain rfl : k = n := by omega
      have tk : ¬ (k : Int) < (k : Int) := by omega
      clear hb
      go_wp2_with fail
      go_ret
      exact ⟨rfl, HB.out⟩
end Go.Proofs.Ytnbiklkgkidlnaa
