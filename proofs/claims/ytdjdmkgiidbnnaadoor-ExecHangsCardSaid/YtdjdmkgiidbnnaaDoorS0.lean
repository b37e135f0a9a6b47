/- ExecSplits: a run of some steps, and then one by one, told plainly; what lies in memory on its way. -/
import Derived.Test.YtdjdmkgiidbnnaaDoorR4
namespace Go.Proofs.YtdjdmkgiidbnnaaDoor
open Go.RowKit

theorem runF_succ (prio : Int) (l : List I4) (k : Nat) (pc : Int) (r : R4) (t : List Int) : runF prio l (k + 1) pc r t = if (stepF prio l pc r).e.op = 13 then runF prio l k (stepF prio l pc r).pc (stepF prio l pc r).r (t ++ [(stepF prio l pc r).e.n]) else if (stepF prio l pc r).e.op = 0 ∨ (stepF prio l pc r).e.op = 6 then runF prio l k (stepF prio l pc r).pc (stepF prio l pc r).r t else ⟨(stepF prio l pc r).pc, (stepF prio l pc r).r, t, (stepF prio l pc r).e⟩ := rfl
theorem runF_add (prio : Int) (l : List I4) (b : Nat) : ∀ (a : Nat) (pc : Int) (r : R4) (t : List Int),
    runF prio l (a + b) pc r t = if (runF prio l a pc r t).e.op = 0 then runF prio l b (runF prio l a pc r t).pc (runF prio l a pc r t).r (runF prio l a pc r t).told else runF prio l a pc r t
  | 0, pc, r, t => by simp [runF, Eff.zero]
  | a + 1, pc, r, t => by
    rw [show a + 1 + b = (a + b) + 1 by omega, runF_succ prio l (a + b), runF_succ prio l a]
    by_cases h13 : (stepF prio l pc r).e.op = 13
    · rw [if_pos h13, if_pos h13]; exact runF_add prio l b a _ _ _
    · by_cases h06 : (stepF prio l pc r).e.op = 0 ∨ (stepF prio l pc r).e.op = 6
      · rw [if_neg h13, if_neg h13, if_pos h06, if_pos h06]; exact runF_add prio l b a _ _ _
      · rw [if_neg h13, if_neg h13, if_neg h06, if_neg h06, if_neg (fun h => h06 (.inl h))]
theorem runF_zero (prio : Int) (l : List I4) : ∀ (a : Nat) (pc : Int) (r : R4) (t : List Int), (runF prio l a pc r t).e.op = 0 → (runF prio l a pc r t).e = Eff.zero
  | 0, _, _, _, _ => rfl
  | a + 1, pc, r, t, h => by
    rw [runF_succ] at h ⊢
    by_cases h13 : (stepF prio l pc r).e.op = 13
    · rw [if_pos h13] at h ⊢; exact runF_zero prio l a _ _ _ h
    · by_cases h06 : (stepF prio l pc r).e.op = 0 ∨ (stepF prio l pc r).e.op = 6
      · rw [if_neg h13, if_pos h06] at h ⊢; exact runF_zero prio l a _ _ _ h
      · rw [if_neg h13, if_neg h06] at h; exact absurd h (fun q => h06 (.inl q))
theorem stepF_zero {prio : Int} {l : List I4} {pc : Int} {r : R4} (h : (stepF prio l pc r).e.op = 0) : (stepF prio l pc r).e = Eff.zero := by
  unfold stepF at *
  split at h
  · rename_i h1
    rw [if_pos h1]
    split at h
    · exact stepP_zero h
    · simp [Eff.refused] at h
  · simp [Eff.refused] at h
/-- Where a run that is split is: the whole run is what is left of it. -/
def Left (prio : Int) (l : List I4) (R : Ran) (k : Nat) (pc : Int) (q : R4) (t : List Int) (e : Eff) : Prop :=
  (e = Eff.zero ∧ R = runF prio l k pc q t) ∨ (e.op ≠ 0 ∧ R = ⟨pc, q, t, e⟩)
theorem Left.start (prio : Int) (l : List I4) (a b : Nat) (r : R4) : Left prio l (runF prio l (a + b) 0 r []) b (runF prio l a 0 r []).pc (runF prio l a 0 r []).r (runF prio l a 0 r []).told (runF prio l a 0 r []).e := by
  rw [runF_add]
  by_cases h : (runF prio l a 0 r []).e.op = 0
  · rw [if_pos h]; exact .inl ⟨runF_zero prio l a 0 r [] h, rfl⟩
  · rw [if_neg h]; exact .inr ⟨h, rfl⟩
theorem Left.stop {prio : Int} {l : List I4} {R : Ran} {k : Nat} {pc : Int} {q : R4} {t : List Int} {e : Eff} (h : Left prio l R k pc q t e) (hk : k = 0 ∨ e.op ≠ 0) : R = ⟨pc, q, t, e⟩ := by
  rcases h with ⟨rfl, h⟩ | ⟨_, h⟩
  · rcases hk with rfl | hk
    · exact h
    · exact absurd rfl hk
  · exact h
theorem Left.out {prio : Int} {l : List I4} {R : Ran} {k : Nat} {pc : Int} {q : R4} {t : List Int} {e : Eff} {G : Got} (h : Left prio l R (k + 1) pc q t e) (he : e.op = 0) (hG : stepF prio l pc q = G) (h13 : G.e.op = 13) : Left prio l R k G.pc G.r (t ++ [G.e.n]) e := by
  subst hG
  rcases h with ⟨rfl, h⟩ | ⟨h, _⟩
  · refine .inl ⟨rfl, ?_⟩; rw [h, runF_succ, if_pos h13]
  · exact absurd he h
theorem Left.yield {prio : Int} {l : List I4} {R : Ran} {k : Nat} {pc : Int} {q : R4} {t : List Int} {e : Eff} {G : Got} (h : Left prio l R (k + 1) pc q t e) (he : e.op = 0) (hG : stepF prio l pc q = G) (h6 : G.e.op = 6) : Left prio l R k G.pc G.r t e := by
  subst hG
  rcases h with ⟨rfl, h⟩ | ⟨h, _⟩
  · refine .inl ⟨rfl, ?_⟩; rw [h, runF_succ, if_neg (by omega), if_pos (.inr h6)]
  · exact absurd he h
theorem Left.next {prio : Int} {l : List I4} {R : Ran} {k : Nat} {pc : Int} {q : R4} {t : List Int} {e : Eff} {G : Got} (h : Left prio l R (k + 1) pc q t e) (he : e.op = 0) (hG : stepF prio l pc q = G) (h13 : G.e.op ≠ 13) (h6 : G.e.op ≠ 6) : Left prio l R k G.pc G.r t G.e := by
  subst hG
  rcases h with ⟨rfl, h⟩ | ⟨h, _⟩
  · by_cases h0 : (stepF prio l pc q).e.op = 0
    · refine .inl ⟨stepF_zero h0, ?_⟩; rw [h, runF_succ, if_neg h13, if_pos (.inl h0)]
    · refine .inr ⟨h0, ?_⟩; rw [h, runF_succ, if_neg h13, if_neg (by omega)]
  · exact absurd he h
theorem Mine.ne {B : Nat} {v : Value} {l : List Int} {W : World} {R : Nat} {t : TypeId} {cs : Array Value} (h : Mine B v l W) (hb : Blk W R t cs) (ht : t ≠ 21) : v.ownBlock ≠ some R := by
  rcases h.2 with ⟨rfl, _⟩ | ⟨g, cap, cur, rfl, hbb, hgg, rest⟩
  · simp [Value.ownBlock]
  · intro e
    have e' : g = R := by simpa [Value.ownBlock] using e
    subst e'
    have := hgg.symm.trans hb
    simp only [Option.some.injEq, Obj.cells.injEq] at this
    exact ht this.2.1.symm
theorem Mine.but' {B : Nat} {X : Nat → Prop} {v : Value} {l : List Int} {w w' : World} (h : Mine B v l w) (hb : But X w w') (hX : ∀ g, v.ownBlock = some g → ¬ X g) : Mine B v l w' := by
  refine ⟨h.1, ?_⟩
  rcases h.2 with hn | ⟨g, cap, cur, rfl, hbb, hgg, rest⟩
  · exact .inl hn
  · have hlt : g < w.heap.size := (Array.getElem?_eq_some_iff.1 hgg).1
    exact .inr ⟨g, cap, cur, rfl, hbb, (hb.block g hlt (hX g rfl)).trans hgg, rest⟩
/-- What a split run has in memory: its program, the registers it began with; where it is, what it told, what was asked. -/
structure SpI (w W : World) (prio : Int) (A : Option Addr) (n cap : Nat) (r q : R4) (v : Value) (t : List Int) (R E : Nat) (e : Eff) : Prop where
  p : P2 w W prio A n cap r
  q : Blk W R 25 #[.int .i32 q.a, .int .i32 q.b, .int .i32 q.c, .int .i32 q.d]
  e : Blk W E 29 #[.int .i64 e.op, .int .i64 e.reg, .int .i32 e.n]
  lt : w.heap.size + 1 < R ∧ R < E
  mine : Mine (w.heap.size + 1 + 1) v t W
section
variable {w W W' : World} {prio : Int} {A : Option Addr} {n cap R E : Nat} {r q : R4} {v : Value} {t : List Int} {e : Eff}
theorem SpI.on (h : SpI w W prio A n cap r q v t R E e) (hb : Below W.heap.size W W') : SpI w W' prio A n cap r q v t R E e :=
  ⟨h.p.on hb, h.q.below hb h.q.lt, h.e.below hb h.e.lt, h.lt, h.mine.on hb⟩
theorem SpI.drew (h : SpI w W prio A n cap r q v t R E e) : SpI w W.drew prio A n cap r q v t R E e := h.on ⟨rfl, rfl, rfl, Nat.le_refl _, fun _ _ => rfl⟩
theorem Blk.drewS {g : Nat} {t : TypeId} {cs : Array Value} (h : Blk W g t cs) : Blk W.drew g t cs := h
theorem P2.but {X : Nat → Prop} (hw : Tabs w) (h : P2 w W prio A n cap r) (hb : But X W W') (hX : ∀ k, k ≤ w.heap.size + 1 → ¬ X k) : P2 w W' prio A n cap r := by
  have s1 := hw.size.1; have s2 := hw.size.2
  exact ⟨h.tabs.but hb (hX _ (by omega)) (hX _ (by omega)), h.below.trans (hb.below h.below.size (fun k _ hk => by
    by_cases q : w.heap.size ≤ k
    · exact q
    · exact absurd hk (hX k (by omega)))), h.p.but hb (hX _ (by omega)), h.q.but hb (hX _ (by omega))⟩
theorem SpI.putR (hw : Tabs w) (h : SpI w W prio A n cap r q v t R E e) (g : R4) : SpI w (setR W R g) prio A n cap r g v t R E e := by
  obtain ⟨l1, l2⟩ := h.lt
  exact ⟨h.p.but hw (but_setR W R g) (fun k hk => by omega), (((h.q.set_ 0 _).set_ 1 _).set_ 2 _).set_ 3 _, h.e.but (but_setR W R g) (by omega), h.lt, h.mine.but' (but_setR W R g) (fun k hk x => h.mine.ne h.q (by decide) (by rw [hk, x]))⟩
theorem SpI.putE (hw : Tabs w) (h : SpI w W prio A n cap r q v t R E e) (f : Eff) : SpI w (setE W E f) prio A n cap r q v t R E f := by
  obtain ⟨l1, l2⟩ := h.lt
  exact ⟨h.p.but hw (but_setE W E f) (fun k hk => by omega), h.q.but (but_setE W E f) (by omega), ((h.e.set_ 0 _).set_ 1 _).set_ 2 _, h.lt, h.mine.but' (but_setE W E f) (fun k hk x => h.mine.ne h.e (by decide) (by rw [hk, x]))⟩
theorem SpI.app (hw : Tabs w) (h : SpI w W prio A n cap r q v t R E e) {v' : Value} {t' : List Int} (own : Mine (w.heap.size + 1 + 1) v' t' W') (g : W.grownBy W' v.ownBlock) (b : Below (w.heap.size + 1 + 1) W W') : SpI w W' prio A n cap r q v' t' R E e := by
  have n1 := h.mine.ne h.q (by decide); have n2 := h.mine.ne h.e (by decide)
  have hb : Below w.heap.size w W' := h.p.below.trans (b.mono (by omega))
  exact ⟨⟨hw.on hb, hb, h.p.p.below b (by omega), h.p.q.below b (by omega)⟩, (g.block R h.q.lt (fun x => n1 x.symm)).trans h.q, (g.block E h.e.lt (fun x => n2 x.symm)).trans h.e, h.lt, own⟩
end
end Go.Proofs.YtdjdmkgiidbnnaaDoor
