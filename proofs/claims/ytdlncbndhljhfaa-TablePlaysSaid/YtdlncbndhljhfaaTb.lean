/- A table in memory; Len, Room, has, exited (layer 12). -/
import Derived.Test.YtdlncbndhljhfaaTa
import Derived.Test.YtdlncbndhljhfaaCt
import Derived.Maps.AppendAt
import Derived.Laws.OwnMore
namespace Go.Proofs.Ytdlncbndhljhfaa
open Go.RowKit

theorem flat_get : ∀ (ts : List (List Value)), (∀ x ∈ ts, x.length = 29) → ∀ (i : Nat) (x : List Value), ts[i]? = some x → ∀ j, j < 29 → ts.flatten[i * 29 + j]? = x[j]?
  | [], _, _, _, h, _, _ => by simp at h
  | y :: t, hl, 0, x, h, j, hj => by
    simp at h; subst h
    rw [Nat.zero_mul, Nat.zero_add, List.flatten_cons, List.getElem?_append_left (by rw [hl y (by simp)]; exact hj)]
  | y :: t, hl, i + 1, x, h, j, hj => by
    have hy := hl y (by simp)
    rw [List.flatten_cons, List.getElem?_append_right (by omega), hy, show (i + 1) * 29 + j - 29 = i * 29 + j by omega]
    exact flat_get t (fun z hz => hl z (by simp [hz])) i x (by simpa using h) j hj
theorem flat_len : ∀ (ts : List (List Value)), (∀ x ∈ ts, x.length = 29) → ts.flatten.length = ts.length * 29
  | [], _ => by simp
  | y :: t, hl => by
    rw [List.flatten_cons, List.length_append, hl y (by simp), flat_len t (fun z hz => hl z (by simp [hz])), List.length_cons]; omega
/-- A table: its block, the chain's, the tasks' row. -/
structure TabC (b c gl gn : Nat) (v : Value) (room : Nat) (ts : List (List Value)) (ls : Nat → List Nat) (w : World) : Prop where
  own : Blk w b 88 #[.pointer (some ⟨c, 0, none⟩), v, .int .i64 room]
  row : w.ownsRow 0 38 29 v ts.length ts.flatten
  oks : ∀ x ∈ ts, OkT x
  ch : Ch c gl gn room room ls w
  le : ts.length ≤ room
  lim : room ≤ 256
  ne : ¬ Own3 c gl gn b
  nev : ∀ g, v.ownBlock = some g → g ≠ b ∧ ¬ Own3 c gl gn g
def OwnT (b c gl gn : Nat) (v : Value) : Nat → Prop := fun k => k = b ∨ Own3 c gl gn k ∨ v.ownBlock = some k
theorem row_but {X : Nat → Prop} {w w' : World} {B n : Nat} {t : TypeId} {sz : Nat} {v : Value} {xs : List Value} (h : w.ownsRow B t sz v n xs) (hb : But X w w') (hX : ∀ g, v.ownBlock = some g → ¬ X g) : w'.ownsRow B t sz v n xs := by
  refine ⟨h.1, ?_⟩
  rcases h.2 with hn | ⟨g, cap, cur, rfl, hbb, hgg, rest⟩
  · exact .inl hn
  · exact .inr ⟨g, cap, cur, rfl, hbb, (hb.block g (Array.getElem?_eq_some_iff.1 hgg).1 (hX g rfl)).trans hgg, rest⟩
section
variable {b c gl gn room : Nat} {v : Value} {ts : List (List Value)} {ls : Nat → List Nat} {w w' : World}
theorem TabC.but {X : Nat → Prop} (h : TabC b c gl gn v room ts ls w) (hb : But X w w') (hX : ∀ k, OwnT b c gl gn v k → ¬ X k) : TabC b c gl gn v room ts ls w' :=
  ⟨h.own.but hb (hX _ (.inl rfl)), row_but h.row hb (fun g hg => hX g (.inr (.inr hg))), h.oks, h.ch.but hb (fun k hk => hX k (.inr (.inl hk))), h.le, h.lim, h.ne, h.nev⟩
theorem TabC.lt (h : TabC b c gl gn v room ts ls w) {k : Nat} (hk : OwnT b c gl gn v k) : k < w.heap.size := by
  rcases hk with rfl | hk | hk
  · exact h.own.lt
  · exact h.ch.lt hk
  · exact (h.row.lt k hk).2
theorem TabC.below (h : TabC b c gl gn v room ts ls w) (hb : Below w.heap.size w w') : TabC b c gl gn v room ts ls w' :=
  h.but (But.of_below (X := Nob) hb) fun _ _ q => q
theorem TabC.form (h : TabC b c gl gn v room ts ls w) : (v = .slice none 0 0 ∧ ts = []) ∨ ∃ g cap, v = .slice (some ⟨g, 0, none⟩) ts.length cap := by
  rcases h.row.2 with ⟨e, hn⟩ | ⟨g, cap, cur, e, _⟩
  · exact .inl ⟨e, List.length_eq_zero_iff.1 hn⟩
  · exact .inr ⟨g, cap, e⟩
theorem TabC.at_ (h : TabC b c gl gn v room ts ls w) {i : Nat} {x : List Value} (hx : ts[i]? = some x) : ∃ g cap, v = .slice (some ⟨g, 0, none⟩) ts.length cap ∧ w.rangeAt g (i * 29) x ∧ OkT x := by
  have hok := h.oks x (List.mem_of_getElem? hx)
  rcases h.form with ⟨_, rfl⟩ | ⟨g, cap, rfl⟩
  · simp at hx
  · have hil := (List.getElem?_eq_some_iff.1 hx).1
    refine ⟨g, cap, rfl, fun j u hj => ?_, hok⟩
    have hjl : j < 29 := by have := (List.getElem?_eq_some_iff.1 hj).1; rwa [hok.len] at this
    rw [h.row.cellAt (i * 29 + j) (by omega), flat_get ts (fun y hy => (h.oks y hy).len) i x hx j hjl]
    exact hj
theorem TabC.cells (h : TabC b c gl gn v room ts ls w) : w.cell? ⟨b, 0, none⟩ = some (.pointer (some ⟨c, 0, none⟩)) ∧ w.cell? ⟨b, 1, none⟩ = some v ∧ w.cell? ⟨b, 2, none⟩ = some (.int .i64 room) :=
  ⟨h.own.cell 0, h.own.cell 1, h.own.cell 2⟩
set_option maxHeartbeats 1000000 in
theorem tlen_any (h : TabC b c gl gn v room ts ls w) : Calls Try.prog 23 #[.pointer (some ⟨b, 0, none⟩)] w fun e w' => e = .returned (.int .i64 ts.length) ∧ w = w' := by
  obtain ⟨-, c1, -⟩ := h.cells
  rcases h.form with ⟨rfl, rfl⟩ | ⟨g, cap, rfl⟩
  · clear h
    go_enter Try.func23, Try.ntmps23
    go_wp2
    go_ret
    exact ⟨rfl, rfl⟩
  · clear h
    go_enter Try.func23, Try.ntmps23
    go_wp2
    go_ret
    exact ⟨rfl, rfl⟩
set_option maxHeartbeats 1000000 in
theorem troom_any (h : TabC b c gl gn v room ts ls w) : Calls Try.prog 12 #[.pointer (some ⟨b, 0, none⟩)] w fun e w' => e = .returned (.int .i64 room) ∧ w = w' := by
  obtain ⟨-, -, c2⟩ := h.cells
  clear h
  go_enter Try.func12, Try.ntmps12
  go_wp2
  go_ret
  exact ⟨rfl, rfl⟩
set_option maxHeartbeats 1000000 in
theorem has_of {p : Option Addr} (i : Int) (n : Nat) (hl : Calls Try.prog 23 #[.pointer p] w fun e w' => e = .returned (.int .i64 n) ∧ w = w') :
    Calls Try.prog 49 #[.pointer p, .int .i64 i] w fun e w' => e = .returned (.bool (inB i n)) ∧ w = w' := by
  have HL := Lib.hid hl; clear hl
  obtain ⟨q, hq⟩ : ∃ q, inB i n = q := ⟨_, rfl⟩
  rw [hq]; unfold inB at hq
  by_cases h0 : 0 ≤ i
  · have t : decide (0 ≤ i) = true := by simpa using h0
    have t2 : decide (i < (n : Int)) = q := by rw [← hq]; simp [h0]
    clear hq
    go_enter Try.func49, Try.ntmps49
    go_wp2_with (go_at_call 23; (with_reducible refine HL.out.mono ?_); rintro e wq ⟨rfl, rfl⟩)
    go_ret
    exact ⟨rfl, rfl⟩
  · have t : decide (0 ≤ i) = false := by simpa using h0
    obtain rfl : q = false := by rw [← hq]; simp [h0]
    clear hq HL
    go_enter Try.func49, Try.ntmps49
    go_wp2_with fail
    go_ret
    exact ⟨rfl, rfl⟩
theorem has_any (i : Int) (h : TabC b c gl gn v room ts ls w) : Calls Try.prog 49 #[.pointer (some ⟨b, 0, none⟩), .int .i64 i] w fun e w' => e = .returned (.bool (inB i ts.length)) ∧ w = w' := has_of i _ (tlen_any h)
set_option maxHeartbeats 1000000 in
theorem exited_any {i : Nat} {x : List Value} (hx : ts[i]? = some x) (h : TabC b c gl gn v room ts ls w) : Calls Try.prog 50 #[.pointer (some ⟨b, 0, none⟩), .int .i64 i] w fun e w' => e = .returned (.bool (fld x 25 == 8)) ∧ w = w' := by
  obtain ⟨-, c1, -⟩ := h.cells
  obtain ⟨g, cap, rfl, hr, ho⟩ := h.at_ hx
  have hil := (List.getElem?_eq_some_iff.1 hx).1
  have y := hr 25 _ (ho.get (by omega))
  rw [show kindT 25 = .i64 from rfl] at y
  have i0 : (0 : Int) ≤ (i : Int) := by omega
  have i1 : (i : Int) < (ts.length : Int) := by omega
  clear h hr ho hx
  generalize fld x 25 = s at *
  generalize ts.length = n at *
  go_enter Try.func50, Try.ntmps50
  go_wp2
  go_ret
  exact ⟨rfl, rfl⟩
/-! A table that there is not. -/
set_option maxHeartbeats 1000000 in
theorem tlen_nil (w : World) : Calls Try.prog 23 #[.pointer none] w fun e w' => e = .returned (.int .i64 ((0 : Nat) : Int)) ∧ w = w' := by
  go_enter Try.func23, Try.ntmps23
  go_wp2
  go_ret
  exact ⟨rfl, rfl⟩
set_option maxHeartbeats 1000000 in
theorem troom_nil (w : World) : Calls Try.prog 12 #[.pointer none] w fun e w' => e = .returned (.int .i64 0) ∧ w = w' := by
  go_enter Try.func12, Try.ntmps12
  go_wp2
  go_ret
  exact ⟨rfl, rfl⟩
theorem has_nil (i : Int) (w : World) : Calls Try.prog 49 #[.pointer none, .int .i64 i] w fun e w' => e = .returned (.bool false) ∧ w = w' := by
  have := has_of i 0 (tlen_nil w)
  rwa [inB_no (by omega)] at this
end
end Go.Proofs.Ytdlncbndhljhfaa
