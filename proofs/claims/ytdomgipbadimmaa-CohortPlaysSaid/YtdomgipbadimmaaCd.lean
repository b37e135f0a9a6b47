/- slices.Delete of one row out of a round (layer 14). -/
import Derived.Test.YtdomgipbadimmaaCm
import Derived.Deep.CutBlock
import Derived.Deep.DeepCutAuto
import Derived.StillTailTactics
import Derived.StillTactics
namespace Go.Proofs.Ytdomgipbadimmaa
open Go.RowKit
set_option maxRecDepth 100000

/-- Cells written one behind the other. -/
def splC (cs : Array Value) : Nat → List Value → Array Value
  | _, [] => cs
  | o, v :: r => splC (cs.setIfInBounds o v) (o + 1) r
theorem splC_size : ∀ (vs : List Value) (cs : Array Value) (o : Nat), (splC cs o vs).size = cs.size
  | [], _, _ => rfl
  | v :: r, cs, o => by unfold splC; rw [splC_size r]; simp
theorem splC_get : ∀ (vs : List Value) (cs : Array Value) (o k : Nat), o + vs.length ≤ cs.size → (splC cs o vs)[k]? = if o ≤ k ∧ k < o + vs.length then vs[k - o]? else cs[k]?
  | [], _, o, k, _ => by rw [if_neg (by simp only [List.length_nil]; omega)]; rfl
  | v :: r, cs, o, k, h => by
    simp only [List.length_cons] at h
    unfold splC
    rw [splC_get r (cs.setIfInBounds o v) (o + 1) k (by simp; omega), Array.getElem?_setIfInBounds]
    simp only [List.length_cons]
    by_cases h0 : k = o
    · subst h0
      rw [if_neg (by omega), if_pos rfl, if_pos (by omega), if_pos (by omega)]; simp
    · by_cases h1 : o + 1 ≤ k ∧ k < o + 1 + r.length
      · rw [if_pos h1, if_pos (by omega), show k - o = (k - (o + 1)) + 1 by omega, List.getElem?_cons_succ]
      · rw [if_neg h1, if_neg (by omega), if_neg (by omega)]
theorem Blk.setCells {g : Nat} {t : TypeId} : ∀ (vs : List Value) (o : Nat) (w : World) (cs : Array Value), Blk w g t cs → Blk (w.setCells g o vs) g t (splC cs o vs)
  | [], _, _, _, h => h
  | v :: r, o, _, _, h => Blk.setCells r (o + 1) _ _ (h.set_ o v)
theorem But.setCells {X : Nat → Prop} {a : World} {g : Nat} (hg : X g) : ∀ (vs : List Value) (o : Nat) (w : World), But X a w → But X a (w.setCells g o vs)
  | [], _, _, h => h
  | _ :: r, o, _, h => But.setCells hg r (o + 1) _ (h.set ⟨g, o, none⟩ _ (.inl hg))
theorem size_setCells {g : Nat} : ∀ (vs : List Value) (o : Nat) (w : World), (w.setCells g o vs).heap.size = w.heap.size
  | [], _, _ => rfl
  | _ :: r, o, w => by rw [World.setCells, size_setCells r]; simp
theorem infoRow : (Try.prog.info? 105).map (fun i => (i.zero, i.size, i.bytes)) = some (some (.agg #[.int .i64 0, .slice none 0 0]), 2, 32) := by kernel_rfl
theorem zeroRow (w : World) : (zeroValue 105).run Try.prog w = .ok (.agg #[.int .i64 0, .slice none 0 0]) w := by kernel_rfl
theorem run_clear_row (w : World) (ty : TypeId) (b o c : Nat) (h0 : (w.cell? ⟨b, o, none⟩).isSome = true) (h1 : (w.cell? ⟨b, o + 1, none⟩).isSome = true) (f0 : w.frozen? ⟨b, o, none⟩ = false) (f1 : w.frozen? ⟨b, o + 1, none⟩ = false) :
    (Builtin.clear_ #[87] ty #[.slice (some ⟨b, o, none⟩) 1 c]).run Try.prog w = .ok (.tuple #[]) (w.setCells b o [.int .i64 0, .slice none 0 0]) := by
  have hst := run_storeCells_cells (P := Try.prog) b o [.int .i64 0, .slice none 0 0] 0 w (fun j hj => by
    match j, hj with
    | 0, _ => exact h0
    | 1, _ => exact h1) (fun j hj => by
    match j, hj with
    | 0, _ => exact f0
    | 1, _ => exact f1) (by intro v hv; simp at hv; rcases hv with rfl | rfl <;> rfl)
  have hz : (Builtin.zeroCells (Value.agg #[.int .i64 0, .slice none 0 0]).cells 1).toList = [.int .i64 0, .slice none 0 0] := by kernel_rfl
  simp [Builtin.clear_, run_underlying Try.underlying87, zeroRow w, hz, hst]
theorem task_one {w : World} {lab : Nat → LabC} {i : Nat} {s : Int} {tv : Value} {ts : List Int} (h : TaskM w lab i s tv ts) : tv.oneCell' = true := by
  obtain ⟨A, cap, rfl, _⟩ := h.cut.slice; rfl
theorem rows_one {w : World} {lab : Nat → LabC} {i : Nat} {cs : Array Value} {L : List CRow} (h : RowsM w lab i cs L) {k : Nat} (hk : k < 2 * L.length) {u : Value} (hu : cs[k]? = some u) : u.oneCell' = true := by
  obtain ⟨r, hr⟩ : ∃ r, L[k / 2]? = some r := ⟨_, List.getElem?_eq_getElem (by omega)⟩
  obtain ⟨h1, tv, h2, h3⟩ := h (k / 2) r hr
  by_cases e : k = 2 * (k / 2)
  · rw [← e, hu] at h1; cases h1; rfl
  · have e2 : k = 2 * (k / 2) + 1 := by omega
    rw [← e2, hu] at h2; cases h2; exact task_one h3
/-- What Delete gives. -/
def DelP (g cap n : Nat) (lab : Nat → LabC) (i : Nat) (L : List CRow) (w : World) (e : Ending) (w' : World) : Prop :=
  e = .returned (.slice (some ⟨g, 0, none⟩) n cap) ∧ But (fun k => k = g) w w' ∧ w'.heap.size = w.heap.size ∧ ∃ cs, Blk w' g 105 cs ∧ cs.size = 2 * cap ∧ RowsM w' lab i cs L
theorem del_plain {w w' : World} {lab : Nat → LabC} {li g cap : Nat} {cs : Array Value} {A C : List CRow} {r : CRow} (hg : lab g = .round li) (hs : cs.size = 2 * cap) (hc : (A ++ r :: C).length ≤ cap) (h : RowsM w lab li cs (A ++ r :: C))
    (hb : But (fun k => k = g) w w') (u v : Value) :
    RowsM w' lab li (splC (splC cs (2 * A.length) ((cs.toList.take (2 * (A ++ r :: C).length)).drop (2 * (A.length + 1)))) (2 * (A.length + C.length)) [u, v]) (A ++ C) := by
  have hn : (A ++ r :: C).length = A.length + C.length + 1 := by simp; omega
  rw [hn] at hc ⊢
  have hl : ((cs.toList.take (2 * (A.length + C.length + 1))).drop (2 * (A.length + 1))).length = 2 * C.length := by simp; omega
  intro j q hq
  have hj : j < A.length + C.length := by have := (List.getElem?_eq_some_iff.1 hq).1; simpa using this
  have key : ∀ d, d < 2 → (splC (splC cs (2 * A.length) ((cs.toList.take (2 * (A.length + C.length + 1))).drop (2 * (A.length + 1)))) (2 * (A.length + C.length)) [u, v])[2 * j + d]? = cs[if j < A.length then 2 * j + d else 2 * (j + 1) + d]? := fun d hd => by
    rw [splC_get _ _ _ _ (by rw [splC_size]; simp; omega), if_neg (by simp; omega), splC_get _ _ _ _ (by rw [hl]; omega), hl]
    by_cases e : j < A.length
    · rw [if_neg (by omega), if_pos e]
    · rw [if_pos (by omega), if_neg e, List.getElem?_drop, List.getElem?_take, if_pos (by omega), Array.getElem?_toList]
      congr 1; omega
  have hq' : (A ++ r :: C)[if j < A.length then j else j + 1]? = some q := by
    by_cases e : j < A.length
    · rw [if_pos e]; rw [List.getElem?_append_left e] at hq ⊢; exact hq
    · rw [if_neg e]; rw [List.getElem?_append_right (by omega)] at hq ⊢
      rw [show j + 1 - A.length = (j - A.length) + 1 by omega, List.getElem?_cons_succ]; exact hq
  obtain ⟨h1, tv, h2, h3⟩ := h _ q hq'
  refine ⟨?_, tv, ?_, h3.but hb (fun k hk e => by subst e; rw [hg] at hk; cases hk) (fun _ _ => rfl)⟩
  · refine (key 0 (by omega)).trans (Eq.trans ?_ h1)
    by_cases e : j < A.length
    · rw [if_pos e, if_pos e]; rfl
    · rw [if_neg e, if_neg e]; rfl
  · rw [key 1 (by omega), ← h2]
    by_cases e : j < A.length
    · rw [if_pos e, if_pos e]
    · rw [if_neg e, if_neg e]
set_option maxHeartbeats 4000000 in
theorem delete_any {w : World} {lab : Nat → LabC} {li g cap : Nat} {cs : Array Value} {A C : List CRow} {r : CRow} (hg : lab g = .round li) (hb : Blk w g 105 cs) (hs : cs.size = 2 * cap) (hc : (A ++ r :: C).length ≤ cap) (hm : (A ++ r :: C).length ≤ 100000) (h : RowsM w lab li cs (A ++ r :: C)) :
    Calls Try.prog 84 #[.slice (some ⟨g, 0, none⟩) (A ++ r :: C).length cap, .int .i64 (A.length : Int), .int .i64 ((A.length : Int) + 1)] w (DelP g cap (A ++ C).length lab li (A ++ C) w) := by
  obtain ⟨a, ha⟩ : ∃ a, A.length = a := ⟨_, rfl⟩
  obtain ⟨m, hm2⟩ : ∃ m, (A ++ C).length = m := ⟨_, rfl⟩
  have hn : (A ++ r :: C).length = m + 1 := by rw [← hm2]; simp; omega
  have ham : a ≤ m := by rw [← ha, ← hm2]; simp
  rw [hn, ha, hm2]
  rw [hn] at hc hm
  have HB := Lib.hid hb
  have k0 : (0 : Int) ≤ (a : Int) := by omega
  have k1 : (a : Int) ≤ (a : Int) + 1 := by omega
  have k2 : (a : Int) + 1 ≤ ((m + 1 : Nat) : Int) := by omega
  have k3 : ((m + 1 : Nat) : Int) ≤ (cap : Int) := by omega
  have k4 : ((a : Int) == (a : Int) + 1) = false := by simp; omega
  have k5 : (a : Int) ≤ (cap : Int) := by omega
  have hnews : ∀ j u, ((cs.toList.take (2 * (m + 1))).drop (2 * (a + 1)))[j]? = some u → w.cell? ⟨g, 2 * (a + 1) + j, none⟩ = some u := fun j u hj => by
    rw [hb.cell]
    rw [List.getElem?_drop, List.getElem?_take] at hj
    split at hj
    · rw [Array.getElem?_toList] at hj; exact hj
    · cases hj
  have hlen : ((cs.toList.take (2 * (m + 1))).drop (2 * (a + 1))).length = (m - a) * 2 := by simp; omega
  have hone : ∀ u ∈ (cs.toList.take (2 * (m + 1))).drop (2 * (a + 1)), u.oneCell' = true := fun u hu => by
    obtain ⟨j, hj⟩ := List.mem_iff_getElem?.1 hu
    rw [List.getElem?_drop, List.getElem?_take] at hj
    split at hj
    · rw [Array.getElem?_toList] at hj
      exact rows_one h (by omega) hj
    · cases hj
  have hroom : ∀ j, j < ((cs.toList.take (2 * (m + 1))).drop (2 * (a + 1))).length → (w.cell? ⟨g, 0 + a * 2 + j, none⟩).isSome = true ∧ w.frozen? ⟨g, 0 + a * 2 + j, none⟩ = false := fun j hj => by
    rw [hlen] at hj
    refine ⟨?_, hb.free _⟩
    rw [hb.cell, Array.getElem?_eq_getElem (by omega)]; rfl
  have hplain := fun w' (q : But (fun k => k = g) w w') => del_plain hg hs (by rw [hn]; exact hc) h q (.int .i64 0) (.slice none 0 0)
  rw [hn, ha] at hplain
  have hAC : a + C.length = m := by rw [← hm2, ← ha]; simp
  rw [hAC] at hplain
  obtain ⟨news, hnw⟩ : ∃ l, (cs.toList.take (2 * (m + 1))).drop (2 * (a + 1)) = l := ⟨_, rfl⟩
  rw [hnw] at hnews hlen hone hroom hplain
  have HNW := Lib.hid hnews; have HLE := Lib.hid hlen; have HON := Lib.hid hone; have HRO := Lib.hid hroom; have HPL := Lib.hid hplain
  clear hb h hnews hlen hone hroom hplain hnw hn ha hm2 hAC
  go_enter Try.func84, Try.ntmps84
  go_upto_region 5 with fail
  have n1 : ((a : Int) + 1).toNat = a + 1 := by omega
  have j1 : (a : Int) + 1 ≤ (m : Int) + 1 := by omega
  have j2 : (0 : Int) ≤ (a : Int) + 1 := by omega
  have j3 : a + 1 ≤ m + 1 := by omega
  have j4 : (a : Int) ≤ (m : Int) := by omega
  have hsrc : ∃ ad : Addr, (if cap = a + 1 then some ⟨g, 0, none⟩ else some ⟨g, (a + 1) * 2, none⟩) = some ad ∧ ∀ j u, news[j]? = some u → w.drew.cell? (ad.add j) = some u := by
    by_cases e : cap = a + 1
    · refine ⟨_, if_pos e, fun j u hj => ?_⟩
      have := (List.getElem?_eq_some_iff.1 hj).1
      rw [HLE.out] at this; omega
    · refine ⟨_, if_neg e, fun j u hj => ?_⟩
      rw [show (⟨g, (a + 1) * 2, none⟩ : Addr).add j = ⟨g, 2 * (a + 1) + j, none⟩ by unfold Addr.add; rw [Nat.mul_comm]; split <;> simp_all]
      exact HNW.out j u hj
  have hold : ∀ j u, (cs.toList.take (2 * a))[j]? = some u → w.drew.cell? ⟨g, 0 + j, none⟩ = some u := fun j u hj => by
    rw [List.getElem?_take] at hj
    split at hj
    · rw [Nat.zero_add]
      exact (HB.out.cell j).trans (by rw [← Array.getElem?_toList]; exact hj)
    · cases hj
  have HSR := Lib.hid hsrc; have HOL := Lib.hid hold
  clear hsrc hold
  go_still_tail 6, (by kernel_rfl)
  change wpList _ _ _ _ _ w.drew
  obtain ⟨ad, had, hcell⟩ := HSR.out
  rw [had]
  obtain ⟨i0, hi0, hz0, hz1, hz2⟩ := info_parts infoRow
  have hB1 : But (fun k => k = g) w w.drew := (But.refl _ _).drew
  refine wpList_append_arg w.drew rfl (.tmp 22) (.tmp 25) 87 rfl 105 i0 _ 2 32 Try.underlying87 hi0 hz0 hz1 hz2 rfl (by decide) g 0 a cap (cs.toList.take (2 * a)) rfl (by simp; omega) HOL.out ad (m - a) (cap - (a + 1)) news rfl HLE.out hcell HON.out (fun _ => HRO.out) (by unfold maxLen; omega) (by omega) (fun _ => ?_) (fun q => absurd q (by omega))
  have HB2 : Hid (Blk (w.drew.setCells g (0 + a * 2) news) g 105 (splC cs (2 * a) news)) := by
    rw [show 0 + a * 2 = 2 * a by omega]; exact Blk.setCells news _ w.drew cs HB.out
  have HBU : Hid (But (fun k => k = g) w (w.drew.setCells g (0 + a * 2) news)) := But.setCells (X := fun k => k = g) rfl news _ _ hB1
  have HSW : Hid ((w.drew.setCells g (0 + a * 2) news).heap.size = w.heap.size) := size_setCells _ _ _
  rw [show a + (m - a) = m by omega]
  clear hB1 hcell had HSR HOL HRO HON HNW
  generalize w.drew.setCells g (0 + a * 2) news = w2 at *
  have hsz : (splC cs (2 * a) news).size = 2 * cap := by rw [splC_size]; exact hs
  have hcl : ∀ ty, (Builtin.clear_ #[87] ty #[.slice (some ⟨g, m * 2, none⟩) 1 (cap - m)]).run Try.prog w2 = .ok (.tuple #[]) (w2.setCells g (m * 2) [.int .i64 0, .slice none 0 0]) := fun ty => by
    refine run_clear_row w2 ty g (m * 2) (cap - m) ?_ ?_ (HB2.out.free _) (HB2.out.free _)
    · rw [HB2.out.cell, Array.getElem?_eq_getElem (by omega)]; rfl
    · rw [HB2.out.cell, Array.getElem?_eq_getElem (by omega)]; rfl
  have HB3 : Hid (Blk (w2.setCells g (m * 2) [.int .i64 0, .slice none 0 0]) g 105 (splC (splC cs (2 * a) news) (2 * m) [.int .i64 0, .slice none 0 0])) := by
    rw [Nat.mul_comm m 2]; exact Blk.setCells _ _ _ _ HB2.out
  have HBV : Hid (But (fun k => k = g) w (w2.setCells g (m * 2) [.int .i64 0, .slice none 0 0])) := But.setCells (X := fun k => k = g) rfl _ _ _ HBU.out
  have HSZ := Lib.hid hsz
  have c2 : ¬ cap = m := by omega
  have c3 : (0 : Int) ≤ (m : Int) := by omega
  have c4 : (m : Int) ≤ (m : Int) + 1 := by omega
  have c5 : (m : Int) + 1 ≤ (cap : Int) := by omega
  have c6 : ((m : Int) + 1).toNat = m + 1 := by omega
  clear hsz hs hg
  go_wp2_with fail
  go_ret
  exact ⟨rfl, HBV.out, (size_setCells _ _ _).trans HSW.out, _, HB3.out, by rw [splC_size]; exact HSZ.out, HPL.out _ HBV.out⟩
end Go.Proofs.Ytdomgipbadimmaa
