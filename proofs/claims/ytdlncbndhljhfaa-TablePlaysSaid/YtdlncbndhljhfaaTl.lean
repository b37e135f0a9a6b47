/- A table beside a law's own blocks (layer 12). -/
import Derived.Test.YtdlncbndhljhfaaTg
namespace Go.Proofs.Ytdlncbndhljhfaa
open Go.RowKit

/-- A table that lies behind w, apart from the blocks E. -/
structure Liv (w : World) (E : Nat → Prop) (b c gl gn : Nat) (v : Value) (r : Nat) (ts : List (List Value)) (ls : Nat → List Nat) (W : World) : Prop where
  tab : TabC b c gl gn v r ts ls W
  own : ∀ k, OwnT b c gl gn v k → w.heap.size ≤ k ∧ ¬ E k
  below : Below w.heap.size w W
  elt : ∀ k, E k → k < W.heap.size
abbrev Oth (w : World) (E : Nat → Prop) : Nat → Prop := fun k => w.heap.size ≤ k ∧ ¬ E k
section
variable {w W W' : World} {E : Nat → Prop} {b c gl gn r : Nat} {v v' : Value} {ts ts' : List (List Value)} {ls ls' : Nat → List Nat}
theorem Liv.on (h : Liv w E b c gl gn v r ts ls W) (hb : Below W.heap.size W W') : Liv w E b c gl gn v r ts ls W' ∧ But (Oth w E) W W' :=
  ⟨⟨h.tab.below hb, h.own, h.below.trans (hb.mono h.below.size), fun k hk => Nat.lt_of_lt_of_le (h.elt k hk) hb.size⟩, But.of_below hb⟩
theorem Liv.step (h : Liv w E b c gl gn v r ts ls W) (ht : TabC b c gl gn v' r ts' ls' W') (hb : But (OwnT b c gl gn v) W W') (hv : ∀ g, v'.ownBlock = some g → v.ownBlock = some g ∨ W.heap.size ≤ g) : Liv w E b c gl gn v' r ts' ls' W' ∧ But (Oth w E) W W' := by
  refine ⟨⟨ht, fun k hk => ?_, h.below.trans (hb.below h.below.size fun k _ q => (h.own k q).1), fun k hk => Nat.lt_of_lt_of_le (h.elt k hk) hb.size⟩, hb.mono fun k _ q => h.own k q⟩
  rcases hk with q | q | q
  · exact h.own k (.inl q)
  · exact h.own k (.inr (.inl q))
  · rcases hv k q with q | q
    · exact h.own k (.inr (.inr q))
    · exact ⟨Nat.le_trans h.below.size q, fun e => by have := h.elt k e; omega⟩
theorem Liv.more {E' : Nat → Prop} (h : Liv w E b c gl gn v r ts ls W) (hE : ∀ k, E' k → E k ∨ (k < W.heap.size ∧ ¬ OwnT b c gl gn v k)) : Liv w E' b c gl gn v r ts ls W :=
  ⟨h.tab, fun k hk => ⟨(h.own k hk).1, fun q => (hE k q).elim (h.own k hk).2 fun z => z.2 hk⟩, h.below, fun k hk => (hE k hk).elim (h.elt k) fun z => z.1⟩
theorem ladd_ok (cs : List Value) (ho : OkT cs) (hm : mayT cs = true) (h : Liv w E b c gl gn v r ts ls W) (hlt : ts.length < r) :
    Calls Try.prog 19 #[.pointer (some ⟨b, 0, none⟩), .agg cs.toArray] W fun e W' => e = .returned (.tuple #[.int .i64 ts.length, .int .i64 0]) ∧ ∃ v', Liv w E b c gl gn v' r (ts ++ [cs]) ls W' ∧ But (Oth w E) W W' :=
  (add_ok cs ho hm h.tab hlt).mono fun _ _ ⟨v', he, ht, hb, hv⟩ => ⟨he, v', h.step ht hb hv⟩
theorem ladd_bad (cs : List Value) (ho : OkT cs) (hm : mayT cs = false) (h : Liv w E b c gl gn v r ts ls W) :
    Calls Try.prog 19 #[.pointer (some ⟨b, 0, none⟩), .agg cs.toArray] W fun e W' => e = .returned (.tuple #[.int .i64 0, .int .i64 1]) ∧ Liv w E b c gl gn v r ts ls W' ∧ But (Oth w E) W W' :=
  (add_bad cs ho hm W).mono fun _ _ ⟨he, hb⟩ => ⟨he, h.on hb⟩
theorem ladd_full (cs : List Value) (ho : OkT cs) (hm : mayT cs = true) (h : Liv w E b c gl gn v r ts ls W) (hlt : r ≤ ts.length) :
    Calls Try.prog 19 #[.pointer (some ⟨b, 0, none⟩), .agg cs.toArray] W fun e W' => e = .returned (.tuple #[.int .i64 0, .int .i64 4]) ∧ Liv w E b c gl gn v r ts ls W' ∧ But (Oth w E) W W' :=
  (add_full cs ho hm ts.length r hlt W (fun _ hb => tlen_any (h.tab.below hb)) (fun _ hb => troom_any (h.tab.below hb))).mono fun _ _ ⟨he, hb⟩ => ⟨he, h.on hb⟩
theorem ljoin_ok (i k : Nat) (x : List Value) (h : Liv w E b c gl gn v r ts ls W) (hi : i < ts.length) (hx : ts[k]? = some x) (hik : i ≠ k) (he : fld x 25 ≠ 8) (hm : ∀ j, j < r → i ∉ ls j) :
    Calls Try.prog 21 #[.pointer (some ⟨b, 0, none⟩), .int .i64 i, .int .i64 k] W fun e W' => e = .returned (.int .i64 0) ∧ Liv w E b c gl gn v r ts (updL ls k (ls k ++ [i])) W' ∧ But (Oth w E) W W' :=
  (join_ok i k x h.tab hi hx hik he hm).mono fun _ _ ⟨he, ht, hb⟩ => ⟨he, h.step ht hb fun _ hg => .inl hg⟩
theorem ljoined (k : Nat) (h : Liv w E b c gl gn v r ts ls W) (hk : k < ts.length) :
    Calls Try.prog 24 #[.pointer (some ⟨b, 0, none⟩), .int .i64 k] W fun e W' => ∃ u, e = .returned u ∧ MineN W.heap.size u (asI (ls k)) W' ∧ Liv w E b c gl gn v r ts (updL ls k []) W' ∧ But (Oth w E) W W' :=
  (joined_any k h.tab hk).mono fun _ _ ⟨u, he, hm, ht, hb⟩ => ⟨u, he, hm, h.step ht hb fun _ hg => .inl hg⟩
theorem lnew (room : Int) (r : Nat) (hr : min (max room 0) 256 = (r : Int)) (w W : World) (E : Nat → Prop) (hw : Below w.heap.size w W) (hE : ∀ k, E k → k < W.heap.size) :
    Calls Try.prog 10 #[.int .i64 room] W fun e W' => ∃ b c gl gn, e = .returned (.pointer (some ⟨b, 0, none⟩)) ∧ Liv w E b c gl gn (.slice none 0 0) r [] (fun _ => []) W' ∧ But (Oth w E) W W' :=
  (tnew_any room r hr W).mono fun _ _ ⟨b, c, gl, gn, he, ht, hb, hlt⟩ => ⟨b, c, gl, gn, he, ⟨ht, fun k hk => ⟨Nat.le_trans hw.size (hlt k hk), fun q => by have := hE k q; have := hlt k hk; omega⟩, hw.trans ((hb.below (Nat.le_refl _) fun _ _ q => q.elim).mono hw.size), fun k hk => Nat.lt_of_lt_of_le (hE k hk) hb.size⟩, hb.nob⟩
end
end Go.Proofs.Ytdlncbndhljhfaa
