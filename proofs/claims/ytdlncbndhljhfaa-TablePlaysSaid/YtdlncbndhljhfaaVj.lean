/- The code's table and the document's, side by side, apart from a law's own blocks (layer 12). -/
import Derived.Test.YtdlncbndhljhfaaVi
import Derived.Test.YtdlncbndhljhfaaTl
namespace Go.Proofs.Ytdlncbndhljhfaa
open Go.RowKit

structure Two (w : World) (E : Nat → Prop) (b c gl gn : Nat) (v : Value) (tb : Nat) (vL vW : Value) (r : Nat) (ts : List (List Value)) (ls : Nat → List Nat) (us : List (List Value)) (ws : List (Nat × Nat)) (W : World) : Prop where
  tab : TabC b c gl gn v r ts ls W
  ref : TabR tb vL vW r us ws W
  apart : ∀ k, OwnT b c gl gn v k → ¬ OwnR tb vL vW k
  own : ∀ k, OwnT b c gl gn v k ∨ OwnR tb vL vW k → w.heap.size ≤ k ∧ ¬ E k
  below : Below w.heap.size w W
  elt : ∀ k, E k → k < W.heap.size
section
variable {w W W' : World} {E : Nat → Prop} {b c gl gn r tb : Nat} {v v' vL vW vL' vW' : Value} {ts ts' us us' : List (List Value)} {ls ls' : Nat → List Nat} {ws ws' : List (Nat × Nat)}
theorem Two.on (h : Two w E b c gl gn v tb vL vW r ts ls us ws W) (hb : Below W.heap.size W W') : Two w E b c gl gn v tb vL vW r ts ls us ws W' :=
  ⟨h.tab.below hb, h.ref.below hb, h.apart, h.own, h.below.trans (hb.mono h.below.size), fun k hk => Nat.lt_of_lt_of_le (h.elt k hk) hb.size⟩
theorem Two.code (h : Two w E b c gl gn v tb vL vW r ts ls us ws W) (ht : TabC b c gl gn v' r ts' ls' W') (hb : But (OwnT b c gl gn v) W W') (hv : ∀ g, v'.ownBlock = some g → v.ownBlock = some g ∨ W.heap.size ≤ g) :
    Two w E b c gl gn v' tb vL vW r ts' ls' us ws W' ∧ But (Oth w E) W W' := by
  refine ⟨⟨ht, h.ref.but hb (fun k hk q => h.apart k q hk), fun k hk q => ?_, fun k hk => ?_, h.below.trans (hb.below h.below.size fun k _ q => (h.own k (.inl q)).1), fun k hk => Nat.lt_of_lt_of_le (h.elt k hk) hb.size⟩, hb.mono fun k _ q => h.own k (.inl q)⟩
  · rcases hk with z | z | z
    · exact h.apart k (.inl z) q
    · exact h.apart k (.inr (.inl z)) q
    · rcases hv k z with z | z
      · exact h.apart k (.inr (.inr z)) q
      · have := h.ref.lt q; omega
  · rcases hk with (z | z | z) | z
    · exact h.own k (.inl (.inl z))
    · exact h.own k (.inl (.inr (.inl z)))
    · rcases hv k z with z | z
      · exact h.own k (.inl (.inr (.inr z)))
      · exact ⟨Nat.le_trans h.below.size z, fun e => by have := h.elt k e; omega⟩
    · exact h.own k (.inr z)
theorem Two.doc (h : Two w E b c gl gn v tb vL vW r ts ls us ws W) (ht : TabR tb vL' vW' r us' ws' W') (hb : But (OwnR tb vL vW) W W') (hL : ∀ g, vL'.ownBlock = some g → vL.ownBlock = some g ∨ W.heap.size ≤ g) (hW : ∀ g, vW'.ownBlock = some g → vW.ownBlock = some g ∨ W.heap.size ≤ g) :
    Two w E b c gl gn v tb vL' vW' r ts ls us' ws' W' ∧ But (Oth w E) W W' := by
  refine ⟨⟨h.tab.but hb (fun k hk q => h.apart k hk q), ht, fun k hk q => ?_, fun k hk => ?_, h.below.trans (hb.below h.below.size fun k _ q => (h.own k (.inr q)).1), fun k hk => Nat.lt_of_lt_of_le (h.elt k hk) hb.size⟩, hb.mono fun k _ q => h.own k (.inr q)⟩
  · have hlt := h.tab.lt hk
    rcases q with z | z | z
    · exact h.apart k hk (.inl z)
    · rcases hL k z with z | z
      · exact h.apart k hk (.inr (.inl z))
      · omega
    · rcases hW k z with z | z
      · exact h.apart k hk (.inr (.inr z))
      · omega
  · rcases hk with z | z | z | z
    · exact h.own k (.inl z)
    · exact h.own k (.inr (.inl z))
    · rcases hL k z with z | z
      · exact h.own k (.inr (.inr (.inl z)))
      · exact ⟨Nat.le_trans h.below.size z, fun e => by have := h.elt k e; omega⟩
    · rcases hW k z with z | z
      · exact h.own k (.inr (.inr (.inr z)))
      · exact ⟨Nat.le_trans h.below.size z, fun e => by have := h.elt k e; omega⟩
theorem Two.more {E' : Nat → Prop} (h : Two w E b c gl gn v tb vL vW r ts ls us ws W) (hE : ∀ k, E' k → E k ∨ (k < W.heap.size ∧ ¬ OwnT b c gl gn v k ∧ ¬ OwnR tb vL vW k)) : Two w E' b c gl gn v tb vL vW r ts ls us ws W :=
  ⟨h.tab, h.ref, h.apart, fun k hk => ⟨(h.own k hk).1, fun q => (hE k q).elim (h.own k hk).2 fun z => hk.elim z.2.1 z.2.2⟩, h.below, fun k hk => (hE k hk).elim (h.elt k) fun z => z.1⟩
/-! ### The calls, each at both tables -/
theorem two_add (cs : List Value) (ho : OkT cs) (h : Two w E b c gl gn v tb vL vW r ts ls us ws W) :
    Calls Try.prog 19 #[.pointer (some ⟨b, 0, none⟩), .agg cs.toArray] W fun e W' => e = .returned (.tuple #[.int .i64 (addE ts r cs).1, .int .i64 (addE ts r cs).2]) ∧ ∃ v', Two w E b c gl gn v' tb vL vW r (addT ts r cs) ls us ws W' ∧ But (Oth w E) W W' :=
  (tadd_all cs ho h.tab).mono fun _ _ ⟨he, v', ht, hb, hv⟩ => ⟨he, v', h.code ht hb hv⟩
theorem two_dadd (cs : List Value) (ho : OkT cs) (h : Two w E b c gl gn v tb vL vW r ts ls us ws W) :
    Calls Try.prog 48 #[.pointer (some ⟨tb, 0, none⟩), .agg cs.toArray] W fun e W' => e = .returned (.tuple #[.int .i64 (addE us r cs).1, .int .i64 (addE us r cs).2]) ∧ ∃ vL', Two w E b c gl gn v tb vL' vW r ts ls (addT us r cs) ws W' ∧ But (Oth w E) W W' :=
  (dadd_any cs ho h.ref h.tab.lim).mono fun _ _ ⟨he, vL', ht, hb, hv⟩ => ⟨he, vL', h.doc ht hb hv fun _ hg => .inl hg⟩
theorem two_set (i : Int) (cs : List Value) (ho : OkT cs) (h : Two w E b c gl gn v tb vL vW r ts ls us ws W) :
    Calls Try.prog 20 #[.pointer (some ⟨b, 0, none⟩), .int .i64 i, .agg cs.toArray] W fun e W' => e = .returned (.int .i64 (setE ts i cs)) ∧ Two w E b c gl gn v tb vL vW r (setT ts i cs) ls us ws W' ∧ But (Oth w E) W W' :=
  (tset_all i cs ho h.tab).mono fun _ _ ⟨he, ht, hb⟩ => ⟨he, h.code ht hb fun _ hg => .inl hg⟩
theorem two_dset (i : Int) (cs : List Value) (ho : OkT cs) (h : Two w E b c gl gn v tb vL vW r ts ls us ws W) :
    Calls Try.prog 44 #[.pointer (some ⟨tb, 0, none⟩), .int .i64 i, .agg cs.toArray] W fun e W' => e = .returned (.int .i64 (setE us i cs)) ∧ Two w E b c gl gn v tb vL vW r ts ls (setT us i cs) ws W' ∧ But (Oth w E) W W' :=
  (dset_any i cs ho h.ref).mono fun _ _ ⟨he, ht, hb⟩ => ⟨he, h.doc ht hb (fun _ hg => .inl hg) fun _ hg => .inl hg⟩
theorem two_join (i k : Int) (xs : List (Nat × Nat)) (h : Two w E b c gl gn v tb vL vW r ts ls us ws W) (hr : RelW r ts.length ls xs) :
    Calls Try.prog 21 #[.pointer (some ⟨b, 0, none⟩), .int .i64 i, .int .i64 k] W fun e W' => e = .returned (.int .i64 (joinE ts xs i k)) ∧ ∃ ls', Two w E b c gl gn v tb vL vW r ts ls' us ws W' ∧ RelW r ts.length ls' (joinW ts xs i k) ∧ But (Oth w E) W W' :=
  (tjoin_all i k h.tab hr).mono fun _ _ ⟨he, ls', ht, hr', hb⟩ => let q := h.code ht hb fun _ hg => .inl hg; ⟨he, ls', q.1, hr', q.2⟩
theorem two_djoin (i k : Int) (m : Nat → List Nat) (h : Two w E b c gl gn v tb vL vW r ts ls us ws W) (hr : RelW r us.length m ws) :
    Calls Try.prog 45 #[.pointer (some ⟨tb, 0, none⟩), .int .i64 i, .int .i64 k] W fun e W' => e = .returned (.int .i64 (joinE us ws i k)) ∧ ∃ vW', Two w E b c gl gn v tb vL vW' r ts ls us (joinW us ws i k) W' ∧ But (Oth w E) W W' :=
  (djoin_all i k h.ref hr).mono fun _ _ ⟨he, vW', ht, hb, hg⟩ => ⟨he, vW', h.doc ht hb (fun _ hg => .inl hg) hg⟩
theorem two_joined (k : Int) (xs : List (Nat × Nat)) (h : Two w E b c gl gn v tb vL vW r ts ls us ws W) (hr : RelW r ts.length ls xs) :
    Calls Try.prog 24 #[.pointer (some ⟨b, 0, none⟩), .int .i64 k] W fun e W' => ∃ u ls', e = .returned u ∧ MineN W.heap.size u (asI (namedW xs k)) W' ∧ Two w E b c gl gn v tb vL vW r ts ls' us ws W' ∧ RelW r ts.length ls' (leftW xs k) ∧ But (Oth w E) W W' :=
  (tjoined_all k h.tab hr).mono fun _ _ ⟨u, ls', he, hm, ht, hr', hb⟩ => let q := h.code ht hb fun _ hg => .inl hg; ⟨u, ls', he, hm, q.1, hr', q.2⟩
theorem two_djoined (k : Int) (h : Two w E b c gl gn v tb vL vW r ts ls us ws W) :
    Calls Try.prog 47 #[.pointer (some ⟨tb, 0, none⟩), .int .i64 k] W fun e W' => ∃ u vW', e = .returned u ∧ MineN W.heap.size u (asI (namedW ws k)) W' ∧ Two w E b c gl gn v tb vL vW' r ts ls us (leftW ws k) W' ∧ But (Oth w E) W W' :=
  (djoined_any k h.ref).mono fun _ _ ⟨u, vW', he, hm, ht, hb, hg⟩ => let q := h.doc ht (hb.mono fun _ _ z => .inl z) (fun _ hg => .inl hg) fun g hg' => .inr (hg g hg'); ⟨u, vW', he, hm, q.1, q.2⟩
end
end Go.Proofs.Ytdlncbndhljhfaa
