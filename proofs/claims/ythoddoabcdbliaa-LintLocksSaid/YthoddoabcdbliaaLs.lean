/- lint.reach's memory: its program, its row of places still to go to. -/
import Derived.Test.YthoddoabcdbliaaLr
import Derived.Test.YthoddoabcdbliaaLo
import Derived.Test.YthoddoabcdbliaaLq
import Derived.Laws.AppendOwn
import Derived.Laws.OwnMore
namespace Go.Proofs.Ythoddoabcdbliaa
open Go.RowKit

def numC (l : List Int) : List Value := l.map (Value.int .i64)
theorem numC_length (l : List Int) : (numC l).length = l.length := by simp [numC]
theorem infoNum : (Try.prog.info? 3).map (fun i => (i.zero, i.size, i.bytes)) = some (some (.int .i64 0), 1, 8) := by kernel_rfl
structure RW (w W : World) (prio : Int) (A : Option Addr) (n cap : Nat) (L : List Int) (g c : Nat) : Prop where
  below : Below w.heap.size w W
  p : Blk W w.heap.size 24 #[.int .i64 prio, .slice A n cap]
  own : W.ownsRow (w.heap.size + 1) 3 1 (.slice (some ⟨g, 0, none⟩) L.length c) L.length (numC L)
  le : L.length ≤ c ∧ 1 ≤ c
section
variable {w W W' : World} {prio : Int} {A : Option Addr} {n cap : Nat} {L : List Int} {g c : Nat}
theorem RW.on (h : RW w W prio A n cap L g c) (hb : Below W.heap.size W W') : RW w W' prio A n cap L g c := by
  refine ⟨h.below.trans (hb.mono h.below.size), h.p.below hb h.p.lt, ?_, h.le⟩
  refine ⟨h.own.1, ?_⟩
  rcases h.own.2 with hn | ⟨k, cp, cur, e, hbb, hgg, rest⟩
  · exact .inl hn
  · have hlt : k < W.heap.size := (Array.getElem?_eq_some_iff.1 hgg).1
    exact .inr ⟨k, cp, cur, e, hbb, (hb.block k hlt).trans hgg, rest⟩
theorem RW.lt (h : RW w W prio A n cap L g c) : g < W.heap.size := (h.own.lt g rfl).2
theorem RW.cells (h : RW w W prio A n cap L g c) : W.cell? ⟨w.heap.size, 0, none⟩ = some (.int .i64 prio) ∧ W.cell? ⟨w.heap.size, 1, none⟩ = some (.slice A n cap) ∧ w.heap.size < W.heap.size := ⟨h.p.cell 0, h.p.cell 1, h.p.lt⟩
theorem RW.get (h : RW w W prio A n cap L g c) {i : Nat} {y : Int} (hy : L[i]? = some y) : W.cell? ⟨g, i, none⟩ = some (.int .i64 y) := by
  have hi : i < L.length := (List.getElem?_eq_some_iff.1 hy).1
  have := h.own.cellAt i (by omega)
  rw [this]; simp [numC, hy]
/-- The row without its last one. -/
theorem RW.pop {y : Int} (h : RW w W prio A n cap (L ++ [y]) g c) : RW w W prio A n cap L g c := by
  refine ⟨h.below, h.p, ⟨by rw [numC_length, Nat.mul_one], ?_⟩, by have := h.le; simp at this; omega⟩
  rcases h.own.2 with ⟨hn, _⟩ | ⟨k, cp, cur, e, hbb, hgg, h1, h2, h3, h4⟩
  · simp at hn
  · simp only [Value.slice.injEq, Option.some.injEq, Addr.mk.injEq, and_true, true_and] at e
    obtain ⟨rfl, rfl⟩ := e
    refine .inr ⟨g, c, cur, rfl, hbb, hgg, by simp at h1; omega, h2, h3, ?_⟩
    have := congrArg (List.take L.length) h4
    rw [List.take_take] at this
    simp [numC] at this
    simpa [numC, Nat.mul_one] using this
theorem RW.new (w : World) (prio : Int) (A : Option Addr) (n cap : Nat) (y : Int) : RW w ((w.alloc (.cells #[.int .i64 prio, .slice A n cap] 24)).alloc (.cells #[.int .i64 y] 3)) prio A n cap [y] (w.heap.size + 1) 1 := by
  have h1 := Blk.new (w.alloc (.cells #[.int .i64 prio, .slice A n cap] 24)) 3 #[.int .i64 y]
  rw [World.size_alloc] at h1
  exact ⟨((Below.refl _ _).alloc (Nat.le_refl _) _).alloc (by simp) _, (Blk.new _ _ _).alloc _, ⟨rfl, .inr ⟨_, 1, #[.int .i64 y], rfl, Nat.le_refl _, h1, Nat.le_refl _, by unfold maxLen; omega, rfl, rfl⟩⟩, by simp⟩
end
theorem app_num {ops : Array Oper} {rest : List Oper} {o : Oper} {a : Act} {w W : World} {Q : Exit → Act → World → Prop} (hgd : o.guard = none) (s x : Operand) (ho : o.op = .call { callee := .builtin .append, args := #[s, x], argTypes := #[27, 27] })
    {prio : Int} {A : Option Addr} {n cap g c : Nat} {L : List Int} (h0 : RW w W prio A n cap L g c) (hs : a.eval s = .slice (some ⟨g, 0, none⟩) L.length c) (g1 : Nat) (y : Int) (hx : a.eval x = .slice (some ⟨g1, 0, none⟩) 1 1) (hb : W.cell? ⟨g1, 0, none⟩ = some (.int .i64 y)) (hl : L.length ≤ 10000)
    (h : ∀ g' c' w', RW w w' prio A n cap (L ++ [y]) g' c' → W.grownBy w' (some g) → wpList Try.prog ops Q rest (a.put o.dst (.slice (some ⟨g', 0, none⟩) (L.length + 1) c')) w') : wpList Try.prog ops Q (o :: rest) a W := by
  obtain ⟨i0, hi0, hz0, hz1, hz2⟩ := info_parts infoNum
  have hB : w.heap.size + 1 ≤ W.heap.size := h0.p.lt
  refine wpList_append_own W hgd s x 27 ho (w.heap.size + 1) 3 i0 _ 1 8 Try.underlying27 hi0 hz0 hz1 hz2 rfl (by decide) _ L.length (numC L) hs h0.own ⟨g1, 0, none⟩ 1 1 (numC [y]) hx (by simp [numC]) ?_ (by intro u hu; simp [numC] at hu; rcases hu with rfl; rfl) (by unfold maxLen; omega) (by omega) hB ?_
  · intro j u hu
    match j, hu with
    | 0, hu =>
      have hadd : (⟨g1, 0, none⟩ : Addr).add 0 = ⟨g1, 0, none⟩ := by unfold Addr.add; split <;> simp_all
      rw [hadd, hb]; simpa [numC] using hu
    | j + 1, hu => simp [numC] at hu
  · intro v' w' own gr _
    have b : Below (w.heap.size + 1) W w' := (Below.refl _ _).grown gr hB (fun k hk => (h0.own.lt k hk).1)
    rcases own.2 with ⟨_, hz⟩ | ⟨k, cp, cur, rfl, hbb, hgg, h1, rest⟩
    · omega
    · refine h k cp w' ⟨h0.below.trans (b.mono (by omega)), h0.p.below b (by omega), ?_, ?_⟩ gr
      · rw [List.length_append, show numC (L ++ [y]) = numC L ++ numC [y] by simp [numC]]
        exact own
      · simp; omega
/-- What is still to go. -/
def setOf (v : Value) : Nat → Bool := fun k => (intOf v).toNat.testBit k
def lenOf (v : Value) : Nat := match v with
  | .slice _ n _ => n
  | _ => 0
def mes (N : Nat) (s lv : Value) : Nat := 2 * (N - cnt (setOf s) N) + lenOf lv
def mes1 (N : Nat) (s : Value) : Nat := N - cnt (setOf s) N
theorem cnt_setOf {N : Nat} (hN : N ≤ 64) (S : Nat → Bool) : cnt (setOf (.int .u64 (wordB S 64 : Nat))) N = cnt S N :=
  cnt_congr N fun k hk => by
    unfold setOf
    simp only [intOf, Int.toNat_natCast]
    rw [wordB_testBit]; simp; omega
theorem mes_eq {N : Nat} (hN : N ≤ 64) (S : Nat → Bool) (A : Option Addr) (n c : Nat) : mes N (.int .u64 (wordB S 64 : Nat)) (.slice A n c) = 2 * (N - cnt S N) + n := by
  unfold mes; rw [cnt_setOf hN]; rfl
theorem mes1_eq {N : Nat} (hN : N ≤ 64) (S : Nat → Bool) : mes1 N (.int .u64 (wordB S 64 : Nat)) = N - cnt S N := by
  unfold mes1; rw [cnt_setOf hN]
end Go.Proofs.Ythoddoabcdbliaa
