/- A forest in memory; Len, has, is, check (layer 13). -/
import Derived.Test.YtekahmfchpgmfaaZa
import Derived.Test.YtekahmfchpgmfaaZm
import Derived.Test.YtekahmfchpgmfaaShelf
import Derived.Maps.AppendAt
import Derived.Laws.OwnMore
import Derived.Deep.MidRow
import Derived.Deep.RegionHeld3
namespace Go.Proofs.Ytekahmfchpgmfaa
open Go.RowKit
set_option maxRecDepth 100000

structure ForC (fb : Nat) (v : Value) (bs : List Bub) (w : World) : Prop where
  own : Blk w fb 73 #[v]
  row : w.ownsRow 0 30 19 v bs.length (bubC bs)
  inv : InvB bs
def OwnF (fb : Nat) (v : Value) : Nat → Prop := fun k => k = fb ∨ v.ownBlock = some k
theorem row_but {X : Nat → Prop} {w w' : World} {B n : Nat} {t : TypeId} {sz : Nat} {v : Value} {xs : List Value} (h : w.ownsRow B t sz v n xs) (hb : But X w w') (hX : ∀ g, v.ownBlock = some g → ¬ X g) : w'.ownsRow B t sz v n xs := by
  refine ⟨h.1, ?_⟩
  rcases h.2 with hn | ⟨g, cap, cur, rfl, hbb, hgg, rest⟩
  · exact .inl hn
  · exact .inr ⟨g, cap, cur, rfl, hbb, (hb.block g (Array.getElem?_eq_some_iff.1 hgg).1 (hX g rfl)).trans hgg, rest⟩
theorem row_type {w : World} {B n sz g : Nat} {t u : TypeId} {v : Value} {xs : List Value} {cs : Array Value} (h : w.ownsRow B t sz v n xs) (hg : v.ownBlock = some g) (hb : Blk w g u cs) : t = u := by
  rcases h.2 with ⟨rfl, _⟩ | ⟨g', cap, cur, rfl, _, hgg, _⟩
  · simp [Value.ownBlock] at hg
  · simp [Value.ownBlock] at hg
    subst hg
    have := hgg.symm.trans hb
    simp at this; exact this.2
theorem rowForm {w : World} {B n : Nat} {t : TypeId} {sz : Nat} {v : Value} {xs : List Value} (h : w.ownsRow B t sz v n xs) : (v = .slice none 0 0 ∧ n = 0) ∨ ∃ g cap, v = .slice (some ⟨g, 0, none⟩) n cap := by
  rcases h.2 with ⟨e, hn⟩ | ⟨g, cap, cur, e, _⟩
  · exact .inl ⟨e, hn⟩
  · exact .inr ⟨g, cap, e⟩
/-- A row of bubbles: where the cells of one lie. -/
theorem row_at {w : World} {B : Nat} {v : Value} {bs : List Bub} (h : w.ownsRow B 30 19 v bs.length (bubC bs)) {i : Nat} {x : Bub} (hx : bs[i]? = some x) : ∃ g cap, v = .slice (some ⟨g, 0, none⟩) bs.length cap ∧ w.rangeAt g (i * 19) (bubL x) ∧ g < w.heap.size := by
  have hil := (List.getElem?_eq_some_iff.1 hx).1
  rcases rowForm h with ⟨_, e⟩ | ⟨g, cap, rfl⟩
  · omega
  · refine ⟨g, cap, rfl, fun j u hj => ?_, (h.lt g rfl).2⟩
    have hjl : j < 19 := by have := (List.getElem?_eq_some_iff.1 hj).1; rwa [bubL_len] at this
    rw [h.cellAt (i * 19 + j) (by omega), bubC_get bs i x hx j hjl]
    exact hj
/-- A row of bubbles with one cell of one turned. -/
theorem row_turn {w : World} {B : Nat} {bs : List Bub} {g cap : Nat} (h : w.ownsRow B 30 19 (.slice (some ⟨g, 0, none⟩) bs.length cap) bs.length (bubC bs)) {i : Nat} {x y : Bub} (hx : bs[i]? = some x) (j : Nat) (u : Value) (hj : j < 19) (hy : (bubL x).set j u = bubL y) :
    (w.setCell ⟨g, i * 19 + j, none⟩ u).ownsRow B 30 19 (.slice (some ⟨g, 0, none⟩) (bs.set i y).length cap) (bs.set i y).length (bubC (bs.set i y)) := by
  have h1 := (h.stored (i * 19 + j) u).1
  rw [bubC_set bs i x y hx j u hj hy] at h1
  rwa [List.length_set]
section
variable {fb : Nat} {v : Value} {bs : List Bub} {w w' : World}
theorem ForC.nev (h : ForC fb v bs w) {g : Nat} (hg : v.ownBlock = some g) : g ≠ fb := fun e => by
  have := row_type h.row hg (e ▸ h.own)
  exact absurd this (by decide)
theorem ForC.but {X : Nat → Prop} (h : ForC fb v bs w) (hb : But X w w') (hX : ∀ k, OwnF fb v k → ¬ X k) : ForC fb v bs w' :=
  ⟨h.own.but hb (hX _ (.inl rfl)), row_but h.row hb (fun g hg => hX g (.inr hg)), h.inv⟩
theorem ForC.lt (h : ForC fb v bs w) {k : Nat} (hk : OwnF fb v k) : k < w.heap.size := by
  rcases hk with rfl | hk
  · exact h.own.lt
  · exact (h.row.lt k hk).2
theorem ForC.below (h : ForC fb v bs w) (hb : Below w.heap.size w w') : ForC fb v bs w' :=
  h.but (But.of_below (X := Nob) hb) fun _ _ q => q
theorem ForC.cell (h : ForC fb v bs w) : w.cell? ⟨fb, 0, none⟩ = some v := h.own.cell 0
set_option maxHeartbeats 1000000 in
theorem flen_any (h : ForC fb v bs w) : Calls Try.prog 26 #[.pointer (some ⟨fb, 0, none⟩)] w fun e w' => e = .returned (.int .i64 bs.length) ∧ w = w' := by
  have c0 := h.cell
  have hf := rowForm h.row
  clear h
  generalize bs.length = n at *
  rcases hf with ⟨rfl, rfl⟩ | ⟨g, cap, rfl⟩
  all_goals
    go_enter Try.func26, Try.ntmps26
    go_wp2
    go_ret
    exact ⟨rfl, rfl⟩
set_option maxHeartbeats 1000000 in
theorem flen_nil (w : World) : Calls Try.prog 26 #[.pointer none] w fun e w' => e = .returned (.int .i64 ((([] : List Bub).length : Nat) : Int)) ∧ w = w' := by
  go_enter Try.func26, Try.ntmps26
  go_wp2
  go_ret
  exact ⟨rfl, rfl⟩
set_option maxHeartbeats 1000000 in
theorem fhas_of {p : Option Addr} (b : Int) (bs : List Bub) (hL : Calls Try.prog 26 #[.pointer p] w fun e w' => e = .returned (.int .i64 bs.length) ∧ w = w') :
    Calls Try.prog 27 #[.pointer p, .int .i64 b] w fun e w' => e = .returned (.bool (inB bs b)) ∧ w = w' := by
  have HL := Lib.hid hL
  clear hL
  unfold inB
  generalize bs.length = n at *
  by_cases h0 : 0 ≤ b
  · have t0 : decide ((0 : Int) ≤ b) = true := by simpa using h0
    by_cases h1 : b < (n : Int)
    · have t1 : decide (b < (n : Int)) = true := by simpa using h1
      have e : decide (0 ≤ b ∧ b < (n : Int)) = true := by simp; omega
      rw [e]
      go_enter Try.func27, Try.ntmps27
      go_wp2_with (go_at_call 26; (with_reducible refine HL.out.mono ?_); rintro e wq ⟨rfl, rfl⟩)
      go_ret
      exact ⟨rfl, rfl⟩
    · have t1 : decide (b < (n : Int)) = false := by simpa using h1
      have e : decide (0 ≤ b ∧ b < (n : Int)) = false := by simp; omega
      rw [e]
      go_enter Try.func27, Try.ntmps27
      go_wp2_with (go_at_call 26; (with_reducible refine HL.out.mono ?_); rintro e wq ⟨rfl, rfl⟩)
      go_ret
      exact ⟨rfl, rfl⟩
  · have t0 : decide ((0 : Int) ≤ b) = false := by simpa using h0
    have e : decide (0 ≤ b ∧ b < (n : Int)) = false := by simp; omega
    rw [e]
    go_enter Try.func27, Try.ntmps27
    go_wp2_with (go_at_call 26; (with_reducible refine HL.out.mono ?_); rintro e wq ⟨rfl, rfl⟩)
    go_ret
    exact ⟨rfl, rfl⟩
theorem fhas_any (b : Int) (h : ForC fb v bs w) : Calls Try.prog 27 #[.pointer (some ⟨fb, 0, none⟩), .int .i64 b] w fun e w' => e = .returned (.bool (inB bs b)) ∧ w = w' := fhas_of b bs (flen_any h)
theorem fhas_nil (b : Int) (w : World) : Calls Try.prog 27 #[.pointer none, .int .i64 b] w fun e w' => e = .returned (.bool (inB [] b)) ∧ w = w' := fhas_of b [] (flen_nil w)
/-- The states that are asked for, as they lie. -/
def StIn (w : World) (sb : Nat) (zs : List Int) : Prop := ∀ j, j < zs.length → w.cell? ⟨sb, 0 + j, none⟩ = some (.int .i64 (zs.getD j 0))
set_option maxHeartbeats 1000000 in
theorem fis_any {i : Nat} {x : Bub} (hx : bs[i]? = some x) (h : ForC fb v bs w) (sb n c : Nat) (zs : List Int) (hn : zs.length = n) (hz : StIn w sb zs) (hs : n ≤ 10) :
    Calls Try.prog 53 #[.pointer (some ⟨fb, 0, none⟩), .int .i64 i, .slice (some ⟨sb, 0, none⟩) n c] w fun e w' => e = .returned (.bool (zs.contains x.state)) ∧ w = w' := by
  have hil := (List.getElem?_eq_some_iff.1 hx).1
  have c0 := h.cell
  obtain ⟨g, cap, rfl, hr, -⟩ := row_at h.row hx
  have y := hr 17 _ (bubL_17 x)
  have i0 : (0 : Int) ≤ (i : Int) := by omega
  have i1 : (i : Int) < (bs.length : Int) := by omega
  have HC := Lib.hid (Try.slices_Contains_int sb 0 n c zs x.state w (by omega) (by omega) hz)
  have ht : zs.take n = zs := by rw [← hn, List.take_length]
  rw [ht] at HC
  clear h hr hx hz ht
  generalize zs.contains x.state = r at *
  generalize x.state = s at *
  generalize bs.length = m at *
  go_enter Try.func53, Try.ntmps53
  go_wp2_with (go_at_call 66; (with_reducible refine HC.out.mono ?_); rintro e wq ⟨rfl, rfl⟩)
  go_ret
  exact ⟨rfl, rfl⟩
def checkE (bs : List Bub) (b : Int) (zs : List Int) : Int := if inB bs b then (if zs.contains (atB bs b).state then 0 else 5) else 3
set_option maxHeartbeats 1000000 in
theorem fcheck_any (b : Int) (h : ForC fb v bs w) (sb n c : Nat) (zs : List Int) (hn : zs.length = n) (hz : StIn w sb zs) (hs : n ≤ 10) :
    Calls Try.prog 54 #[.pointer (some ⟨fb, 0, none⟩), .int .i64 b, .slice (some ⟨sb, 0, none⟩) n c] w fun e w' => e = .returned (.int .i64 (checkE bs b zs)) ∧ w = w' := by
  have HH := Lib.hid (fhas_any b h)
  unfold checkE
  cases hb : inB bs b with
  | false =>
    rw [hb] at HH
    clear h hz hb
    go_enter Try.func54, Try.ntmps54
    go_wp2_with (go_at_call 27; (with_reducible refine HH.out.mono ?_); rintro e wq ⟨rfl, rfl⟩)
    go_ret
    exact ⟨rfl, rfl⟩
  | true =>
    rw [hb] at HH
    obtain ⟨i, x, rfl, hx⟩ := inB_nat hb
    have HI := Lib.hid (fis_any hx h sb n c zs hn hz hs)
    rw [atB_of hx]
    clear h hz hb hx
    cases hr : zs.contains x.state with
    | false =>
      rw [hr] at HI
      clear hr
      go_enter Try.func54, Try.ntmps54
      go_wp2_with (first
        | (go_at_call 27; (with_reducible refine HH.out.mono ?_); rintro e wq ⟨rfl, rfl⟩)
        | (go_at_call 53; (with_reducible refine HI.out.mono ?_); rintro e wq ⟨rfl, rfl⟩))
      go_ret
      exact ⟨rfl, rfl⟩
    | true =>
      rw [hr] at HI
      clear hr
      go_enter Try.func54, Try.ntmps54
      go_wp2_with (first
        | (go_at_call 27; (with_reducible refine HH.out.mono ?_); rintro e wq ⟨rfl, rfl⟩)
        | (go_at_call 53; (with_reducible refine HI.out.mono ?_); rintro e wq ⟨rfl, rfl⟩))
      go_ret
      exact ⟨rfl, rfl⟩
end
end Go.Proofs.Ytekahmfchpgmfaa
