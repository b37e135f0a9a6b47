/- A ring's Each: what a loop over it is given. -/
import Derived.Test.YtlgdeadghmbfmaaLg
import Derived.RangeFuncNested
import Derived.RangeFuncBound
import Derived.RangeFuncCalls
import Derived.RangeFuncLeaves
import Derived.Shelf.Abstract
import Derived.Shelf.RegionOpen
import Derived.OwnWalkIn
import Derived.TacticsInMore
import Derived.LoopNIn
import Derived.LoopIn
namespace Go.Proofs.Ytlgdeadghmbfmaa
open Go.RowKit Go.Shelf
attribute [local go_sem] Oper.semAt_some

/-- What stands from a place on. -/
def tl (l : List Int) (fr : Int) : List Int := if there l fr then l.drop fr.toNat else []
theorem there_no {l : List Int} {i : Int} (h : i < 0 ∨ (l.length : Int) ≤ i) : there l i = false := by simp [there]; omega
theorem tl_none {l : List Int} {fr : Int} (h : fr < 0 ∨ (l.length : Int) ≤ fr) : tl l fr = [] := by unfold tl; rw [there_no h]; rfl
theorem tl_some {l : List Int} {fr : Nat} (h : fr < l.length) : tl l fr = l.drop fr := by unfold tl; rw [there_yes h]; rfl
/-- A ring, or none. -/
def RgP (p : Option Nat) (G : Option Nat) (l : List Int) (room : Nat) (w : World) : Prop :=
  match p with
  | none => l = []
  | some b => Rg b G l room w
def ptr (p : Option Nat) : Value := .pointer (p.map fun b => ⟨b, 0, none⟩)
/-- What behind gives, for any ring and any place. -/
def BehQ (l : List Int) (fr : Int) (w : World) (e : Ending) (w' : World) : Prop :=
  ∃ A L, e = .returned (.slice A L L) ∧ L = (tl l fr).length ∧ L ≤ 4096 ∧
    (∀ j, j < L → ∃ g2 S, A = some ⟨g2, 0, none⟩ ∧ w.heap.size ≤ g2 ∧ Blk w' g2 3 S ∧ S[j]? = some (.int .i64 ((tl l fr)[j]?.getD 0))) ∧ But Nob w w'
theorem behQ_nil {l : List Int} {fr : Int} {w : World} (h : tl l fr = []) : BehQ l fr w (.returned (.slice none 0 0)) w :=
  ⟨none, 0, rfl, by rw [h]; rfl, by omega, fun j hj => absurd hj (by omega), But.refl _ _⟩
set_option maxHeartbeats 1000000 in
theorem behind_out (p : Option Nat) (G : Option Nat) (l : List Int) (room : Nat) (fr : Int) (w : World) (h : RgP p G l room w) (hf : fr < 0 ∨ (l.length : Int) ≤ fr) :
    Calls Try.prog 61 #[ptr p, .int .i64 fr] w fun e w' => e = .returned (.slice none 0 0) ∧ w = w' := by
  by_cases h0 : fr < 0
  · go_enter Try.func61, Try.ntmps61
    go_wp2
    go_ret
    exact ⟨rfl, rfl⟩
  · have h1 : (l.length : Int) ≤ fr := by omega
    have h2 : 0 ≤ fr := by omega
    cases p with
    | none =>
      obtain rfl : l = [] := h
      have HL := Lib.hid (len_nil w)
      clear hf
      show Calls Try.prog 61 #[.pointer none, .int .i64 fr] w _
      go_enter Try.func61, Try.ntmps61
      go_wp2_with (go_at_call 26; (with_reducible refine HL.out.mono ?_); rintro e wq ⟨rfl, rfl⟩)
      go_ret
      exact ⟨rfl, rfl⟩
    | some b =>
      have hlen := len_any b l.length w (Rg.head (show Rg b G l room w from h)).1
      have HL := Lib.hid hlen
      clear hlen h hf
      show Calls Try.prog 61 #[.pointer (some ⟨b, 0, none⟩), .int .i64 fr] w _
      go_enter Try.func61, Try.ntmps61
      go_wp2_with (go_at_call 26; (with_reducible refine HL.out.mono ?_); rintro e wq ⟨rfl, rfl⟩)
      go_ret
      exact ⟨rfl, rfl⟩
theorem beh_any (p : Option Nat) (G : Option Nat) (l : List Int) (room : Nat) (fr : Int) (w : World) (h : RgP p G l room w) :
    Calls Try.prog 61 #[ptr p, .int .i64 fr] w (BehQ l fr w) := by
  by_cases hf : fr < 0 ∨ (l.length : Int) ≤ fr
  · exact (behind_out p G l room fr w h hf).mono fun e w' ⟨he, hw⟩ => by subst hw; rw [he]; exact behQ_nil (tl_none hf)
  · obtain ⟨k, rfl⟩ : ∃ k : Nat, fr = k := ⟨fr.toNat, by omega⟩
    have hk : k < l.length := by omega
    cases p with
    | none => obtain rfl : l = [] := h; simp at hk
    | some b =>
      rcases (show Rg b G l room w from h) with ⟨_, rfl, _, _⟩ | ⟨g, m, first, V, rfl, hR, hV⟩
      · simp at hk
      · refine (behind_any b g m room first l.length V k w hR hk).mono fun e w' ⟨g2, S, q1, q2, q3, q4, q5, q6, q7⟩ => ?_
        refine ⟨some ⟨g2, 0, none⟩, l.length - k, q1, by rw [tl_some hk, List.length_drop], by have := hR.hn; have := hR.hm.1; have := hR.lim; omega, fun j hj => ⟨g2, S, rfl, q2, q3, ?_⟩, q7⟩
        rw [q5 j hj, hV _ (by omega), tl_some hk, List.getElem?_drop]
/-- All blocks of cells are as they were, but those of X. -/
def ButC (X : Nat → Prop) (W W' : World) : Prop := W.heap.size ≤ W'.heap.size ∧ ∀ g cs t f, ¬ X g → W.heap[g]? = some (.cells cs t f) → W'.heap[g]? = some (.cells cs t f)
theorem ButC.refl (X : Nat → Prop) (W : World) : ButC X W W := ⟨Nat.le_refl _, fun _ _ _ _ _ h => h⟩
theorem ButC.trans {X : Nat → Prop} {A B C : World} (h : ButC X A B) (k : ButC X B C) : ButC X A C := ⟨Nat.le_trans h.1 k.1, fun _ _ _ _ hx hg => k.2 _ _ _ _ hx (h.2 _ _ _ _ hx hg)⟩
theorem But.cells {X : Nat → Prop} {W W' : World} (h : But X W W') : ButC X W W' := ⟨h.size, fun g _ _ _ hx hg => (h.block g (Array.getElem?_eq_some_iff.1 hg).1 hx).trans hg⟩
theorem butC_b {X : Nat → Prop} (W : World) (l : Nat) (o o' : Obj) (h : W.heap[l]? = some o) (hc : o.isCells = false) : ButC X W (W.putObj l o') := by
  refine ⟨by simp, fun g cs t f _ hg => ?_⟩
  by_cases e : g = l
  · subst e; rw [h] at hg; cases hg; cases hc
  · exact (World.putObj_heap_other e).trans hg
theorem Blk.butC {X : Nat → Prop} {w w' : World} {g : Nat} {t : TypeId} {cs : Array Value} (h : Blk w g t cs) (hb : ButC X w w') (hx : ¬ X g) : Blk w' g t cs := hb.2 g _ _ _ hx h
theorem hmf : ∀ (fn : Fn) (first cap : Array Value) (w : World), (Instr.makeFunc fn first cap).run Try.prog w = .ok (.func fn first cap) w := fun _ _ _ _ => rfl
set_option maxHeartbeats 1000000 in
theorem each_any (p : Option Addr) (fr : Int) (w : World) :
    Calls Try.prog 27 #[.pointer p, .int .i64 fr] w fun e w' => e = .returned (.func (.func 60) #[] #[.pointer (some ⟨w.heap.size, 0, none⟩), .pointer (some ⟨w.heap.size + 1, 0, none⟩)]) ∧
      (w.alloc (.cells #[.pointer p] 23)).alloc (.cells #[.int .i64 fr] 3) = w' := by
  have h := hmf
  go_enter Try.func27, Try.ntmps27
  go_wp2
  go_ret
  exact ⟨rfl, rfl⟩
/-- What comes, with its places. -/
def itm (l : List Int) (fr : Int) (k : Nat) : List (Int × Int) := (List.range k).map fun j : Nat => (fr + (j : Int), (tl l fr)[j]?.getD 0)
theorem itm_succ (l : List Int) (fr : Int) (k : Nat) : itm l fr (k + 1) = itm l fr k ++ [(fr + k, (tl l fr)[k]?.getD 0)] := by simp [itm, List.range_succ]
theorem itm_length (l : List Int) (fr : Int) (k : Nat) : (itm l fr k).length = k := by simp [itm]
def enc2 (x : Int × Int) : Array Value := #[.int .i64 x.1, .int .i64 x.2]
set_option maxRecDepth 100000 in
set_option maxHeartbeats 4000000 in
theorem each_stops (n : Nat) (hn : 1 ≤ n) (X : Nat → Prop) (p : Option Nat) (G : Option Nat) (l : List Int) (room : Nat) (fr : Int) (B0 B1 : Nat) (w : World) (hX : ∀ k, X k → k < w.heap.size)
    (h0 : Blk w B0 23 #[ptr p]) (h1 : Blk w B1 3 #[.int .i64 fr]) (hx1 : ¬ X B1) (h : RgP p G l room w) (hlim : l.length ≤ 4096) :
    SeqStopsK Fence.wide n Try.prog 60 #[.pointer (some ⟨B0, 0, none⟩), .pointer (some ⟨B1, 0, none⟩)] enc2 (ButC X) (fun ys => ys = itm l fr (tl l fr).length)
      (fun pre => ∃ k, k ≤ (tl l fr).length ∧ pre = itm l fr k) (tl l fr).length w := fun l0 J Jx W hW hJ _ hY hJ0 => by
  have hW' : But Nob w W := But.of_below hW
  have g0 := (h0.but hW' id).cell 0; have g1 := (h1.but hW' id).cell 0
  simp only [List.getElem?_toArray, List.getElem?_cons_zero] at g0 g1
  have hp : RgP p G l room W := by
    cases p with
    | none => exact h
    | some b => exact Rg.but (show Rg b G l room w from h) hW' fun _ _ x => x
  have HB := Lib.hid (beh_any p G l room fr W hp)
  have H1 := Lib.hid (h1.but hW' id)
  have hsz := hW.size
  clear h0 h1 hp h hW hW'
  refine callsIn_of_wp Try.func60 rfl trivial ?_ rfl
  simp only [Try.ntmps60, List.size_toArray, List.length_cons, List.length_nil, Nat.reduceAdd, Nat.reduceSub, Array.replicate_succ, Array.replicate_zero, List.push_toArray, List.append_toArray, List.nil_append, List.cons_append]
  gi_wp2_with fail
  refine ⟨trivial, ?_⟩
  refine (callsIn_wide.2 HB.out).mono ?_
  rintro e W1 ⟨A, L, rfl, hL, hL4, hrow, hB1⟩
  have hJ1 : J [] W1 := hJ [] W W1 none hJ0 ⟨hB1.os, hB1.tape, hB1.output, hB1.size, fun k hk _ => hB1.block k hk id⟩ (fun r e => by cases e)
  have HH1 := Lib.hid (H1.out.but hB1 id)
  have hsz1 := hB1.size
  have HL := Lib.hid hL; have HROW := Lib.hid hrow; clear hL hrow hB1 g0 g1 H1 HB hJ hJ0
  gi_wp2_with fail
  gi_loopw [10, 4, 5] (fun i _ _ wr => ∃ k : Nat, k ≤ L ∧ i = .int .i64 k ∧ J (itm l fr k) wr ∧ ButC X W1 wr) (fun i _ _ _ => L - (intOf i).toNat)
  case atStart => exact ⟨0, Nat.zero_le _, rfl, hJ1, ButC.refl _ _⟩
  case round =>
    obtain ⟨k, hk, rfl, hJs, hnx⟩ := hrel
    by_cases hlt : k < L
    · obtain ⟨g2, S, rfl, hg2, hS1, hS2⟩ := HROW.out k hlt
      have hS3 := hS1.butC hnx (fun x => by have := hX _ x; omega)
      have hc : wr.cell? ⟨g2, k, none⟩ = some (.int .i64 ((tl l fr)[k]?.getD 0)) := by rw [hS3.cell]; exact hS2
      have hf := (HH1.out.butC hnx hx1).cell 0
      simp only [List.getElem?_toArray, List.getElem?_cons_zero] at hf
      obtain ⟨fn, tmps, assign, body, hy, hR⟩ := hY _ (fr + k, (tl l fr)[k]?.getD 0) wr hJs (by rw [itm_length, ← HL.out]; exact hlt)
      dsimp only [enc2] at hy
      have k0 : (0 : Int) ≤ (k : Int) := by omega
      have k1 : (k : Int) < (L : Int) := by omega
      have hq : IntKind.i64.wrap (fr + k) = fr + k := by
        have hz := HL.out
        have hfr : 0 ≤ fr ∧ fr < l.length := by
          by_cases q : fr < 0 ∨ (l.length : Int) ≤ fr
          · rw [tl_none q] at hz; simp at hz; omega
          · omega
        exact IntWalk.i64_in _ (by omega)
      have HR := Lib.hid hR; clear hR hS1 hS2 hS3 hJs
      gi_wp2_with fail
      refine HR.out.mono ?_
      rintro e W3 (⟨rfl, hJ3, hk3⟩ | ⟨rfl, hJx3⟩)
      · gi_wp2_with fail
        go_roundw
        case rel => exact ⟨k + 1, by omega, by go_num, by rw [itm_succ]; exact hJ3, hnx.trans hk3⟩
        case measure => simp [intOf]; omega
      · gi_wp2_with fail
        refine bodyPost_ret (results_none rfl _ _ _) rfl ?_
        exact ⟨⟨_, rfl⟩, .inr ⟨_, ⟨k + 1, by rw [← HL.out]; omega, (itm_succ _ _ _).symm⟩, hJx3⟩⟩
    · have hkL : k = L := by omega
      have t : ¬ (k : Int) < (L : Int) := by omega
      have HK := Lib.hid hkL; clear hkL
      gi_wp2_with fail
      go_end0
      exact ⟨⟨_, rfl⟩, .inl (by rw [← HL.out, ← HK.out]; exact hJs)⟩
end Go.Proofs.Ytlgdeadghmbfmaa
