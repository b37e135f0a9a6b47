/- Rows of words of a call's own; what Run has in memory. -/
import Derived.Test.YtdjdmkgiidbnnaaDoorG5
import Derived.Laws.AppendOwn
import Derived.Laws.OwnMore
namespace Go.Proofs.YtdjdmkgiidbnnaaDoor
open Go.RowKit

theorem haltW {p : Prop} (h : Hid p) : p := h.out
def wordC (l : List Int) : List Value := l.map (Value.int .i32)
theorem wordC_length (l : List Int) : (wordC l).length = l.length := by simp [wordC]
theorem infoW : (Tryd.prog.info? 21).map (fun i => (i.zero, i.size, i.bytes)) = some (some (.int .i32 0), 1, 4) := by kernel_rfl
/-- A row of words of the call's own, from block B on. -/
def Mine (B : Nat) (v : Value) (l : List Int) (w : World) : Prop := w.ownsRow B 21 1 v l.length (wordC l)
theorem mine_nil (B : Nat) (w : World) : Mine B (.slice none 0 0) [] w := ⟨by simp [wordC], .inl ⟨rfl, rfl⟩⟩
/-- A slice's words. -/
def WordsIn (w : World) (A : Option Addr) (l : List Int) : Prop :=
  ∀ i x, l[i]? = some x → ∃ b off, A = some ⟨b, off, none⟩ ∧ b < w.heap.size ∧ w.cell? ⟨b, off + i, none⟩ = some (.int .i32 x)
theorem WordsIn.below {w w' : World} {A : Option Addr} {l : List Int} (h : WordsIn w A l) (hb : Below w.heap.size w w') : WordsIn w' A l := fun i x hx => by
  obtain ⟨b, off, e, hlt, h0⟩ := h i x hx
  exact ⟨b, off, e, Nat.lt_of_lt_of_le hlt hb.size, (hb.cell (p := ⟨b, _, none⟩) hlt).trans h0⟩
theorem Mine.words {B : Nat} {v : Value} {l : List Int} {w : World} (h : Mine B v l w) : ∃ A cap, v = .slice A l.length cap ∧ WordsIn w A l := by
  have hc := h
  rcases h.2 with ⟨rfl, hn⟩ | ⟨g, cap, cur, rfl, hg, hh, hcap, _⟩
  · have : l = [] := by simpa [wordC] using hn
    subst this
    exact ⟨none, 0, rfl, fun i x hx => by simp at hx⟩
  · refine ⟨some ⟨g, 0, none⟩, cap, rfl, fun i x hx => ⟨g, 0, rfl, (hc.lt g rfl).2, ?_⟩⟩
    have := hc.cells (g := g) rfl i (.int .i32 x) (by simp [wordC, hx])
    have hadd : (⟨g, 0, none⟩ : Addr).add i = ⟨g, 0 + i, none⟩ := by unfold Addr.add; split <;> simp_all
    rw [hadd] at this
    exact this
theorem app_word {ops : Array Oper} {rest : List Oper} {o : Oper} {a : Act} {w : World} {Q : Exit → Act → World → Prop} (hgd : o.guard = none) (s x : Operand) (ho : o.op = .call { callee := .builtin .append, args := #[s, x], argTypes := #[33, 33] })
    (B : Nat) (v : Value) (l : List Int) (hs : a.eval s = v) (hown : Mine B v l w) (g : Nat) (y : Int) (hx : a.eval x = .slice (some ⟨g, 0, none⟩) 1 1) (hb : w.cell? ⟨g, 0, none⟩ = some (.int .i32 y)) (hl : l.length ≤ 100000) (hB : B ≤ w.heap.size)
    (h : ∀ v' w', Mine B v' (l ++ [y]) w' → w.grownBy w' v.ownBlock → Below B w w' → wpList Tryd.prog ops Q rest (a.put o.dst v') w') : wpList Tryd.prog ops Q (o :: rest) a w := by
  obtain ⟨i0, hi0, hz0, hz1, hz2⟩ := info_parts infoW
  refine wpList_append_own w hgd s x 33 ho B 21 i0 _ 1 4 Tryd.underlying33 hi0 hz0 hz1 hz2 rfl (by decide) v l.length (wordC l) hs hown ⟨g, 0, none⟩ 1 1 (wordC [y]) hx (by simp [wordC]) ?_ (by intro u hu; simp [wordC] at hu; rcases hu with rfl; rfl) (by unfold maxLen; omega) (by omega) hB ?_
  · intro j u hu
    match j, hu with
    | 0, hu =>
      have hadd : (⟨g, 0, none⟩ : Addr).add 0 = ⟨g, 0, none⟩ := by unfold Addr.add; split <;> simp_all
      rw [hadd, hb]; simpa [wordC] using hu
    | j + 1, hu => simp [wordC] at hu
  · intro v' w' own gr _
    refine h v' w' ?_ gr ((Below.refl _ _).grown gr hB (fun k hk => (hown.lt k hk).1))
    unfold Mine
    rw [List.length_append, show wordC (l ++ [y]) = wordC l ++ wordC [y] by simp [wordC]]
    exact own
theorem Mine.but {B : Nat} {X : Nat → Prop} {v : Value} {l : List Int} {w w' : World} (h : Mine B v l w) (hb : But X w w') (hX : ∀ g, B ≤ g → g < w.heap.size → ¬ X g) : Mine B v l w' := by
  refine ⟨h.1, ?_⟩
  rcases h.2 with hn | ⟨g, cap, cur, rfl, hbb, hgg, rest⟩
  · exact .inl hn
  · have hlt : g < w.heap.size := (Array.getElem?_eq_some_iff.1 hgg).1
    exact .inr ⟨g, cap, cur, rfl, hbb, (hb.block g hlt (hX g hbb hlt)).trans hgg, rest⟩
theorem Mine.on {B : Nat} {v : Value} {l : List Int} {w w' : World} (h : Mine B v l w) (hb : Below w.heap.size w w') : Mine B v l w' :=
  h.but (But.of_below (X := Nob) hb) fun _ _ _ q => q
section
variable {w W : World} {prio : Int} {A : Option Addr} {n cap : Nat} {r : R4}
theorem Four.far (h : Four w W prio A n cap r) (p : Addr) (hp : w.heap.size + 1 + 1 + 1 < p.block) (v : Value) : Four w (W.setCell p v) prio A n cap r :=
  ⟨h.below.trans (((But.refl (fun k => w.heap.size ≤ k) W).set p v (.inl (by omega))).below h.below.size fun _ _ q => q), h.p.far (by omega) v, h.q.far (by omega) v, h.z.far (by omega) v, h.f.far (by omega) v⟩
theorem Four.put (h : Four w W prio A n cap r) (q : R4) : Four w ((((W.setCell ⟨w.heap.size + 1, 0, none⟩ (.int .i32 q.a)).setCell ⟨w.heap.size + 1, 1, none⟩ (.int .i32 q.b)).setCell ⟨w.heap.size + 1, 2, none⟩ (.int .i32 q.c)).setCell ⟨w.heap.size + 1, 3, none⟩ (.int .i32 q.d)) prio A n cap q := by
  refine ⟨h.below.trans (((((But.refl (fun k => w.heap.size ≤ k) W).set _ _ (.inl ?_)).set _ _ (.inl ?_)).set _ _ (.inl ?_)).set _ _ (.inl ?_) |>.below h.below.size fun _ _ q => q), ?_, ?_, ?_, ?_⟩
  · dsimp only; omega
  · dsimp only; omega
  · dsimp only; omega
  · dsimp only; omega
  · exact (((h.p.far (by dsimp only; omega) _).far (by dsimp only; omega) _).far (by dsimp only; omega) _).far (by dsimp only; omega) _
  · exact (((h.q.set_ 0 _).set_ 1 _).set_ 2 _).set_ 3 _
  · exact (((h.z.far (by dsimp only; omega) _).far (by dsimp only; omega) _).far (by dsimp only; omega) _).far (by dsimp only; omega) _
  · exact (((h.f.far (by dsimp only; omega) _).far (by dsimp only; omega) _).far (by dsimp only; omega) _).far (by dsimp only; omega) _
end
/-- What a run has in memory: its program, its registers, its results' places; what it told. -/
structure RunI (w W : World) (prio : Int) (A : Option Addr) (n cap : Nat) (q : R4) (v : Value) (t : List Int) : Prop where
  tabs : Tabs W
  four : Four w W prio A n cap q
  mine : Mine (w.heap.size + 1 + 1 + 1 + 1) v t W
section
variable {w W W' : World} {prio : Int} {A : Option Addr} {n cap E : Nat} {q : R4} {v : Value} {t : List Int}
theorem RunI.on (h : RunI w W prio A n cap q v t) (hb : Below W.heap.size W W') : RunI w W' prio A n cap q v t := ⟨h.tabs.on hb, h.four.on hb, h.mine.on hb⟩
theorem RunI.drew (h : RunI w W prio A n cap q v t) : RunI w W.drew prio A n cap q v t := h.on ⟨rfl, rfl, rfl, Nat.le_refl _, fun _ _ => rfl⟩
theorem RunI.drewN (h : RunI w W prio A n cap q v t) (k : Nat) : RunI w (W.drewN k) prio A n cap q v t := h.on ⟨rfl, rfl, rfl, Nat.le_refl _, fun _ _ => rfl⟩
/-- A run beside the effect of its last step. -/
structure RunE (w W : World) (prio : Int) (A : Option Addr) (n cap : Nat) (q : R4) (v : Value) (t : List Int) (E : Nat) (e : Eff) : Prop where
  run : RunI w W prio A n cap q v t
  e : Blk W E 29 #[.int .i64 e.op, .int .i64 e.reg, .int .i32 e.n]
  lt : w.heap.size + 1 + 1 + 1 < E
  own : ∀ g, v.ownBlock = some g → g < E
theorem RunI.box (h : RunI w W prio A n cap q v t) : RunE w (W.alloc (.cells #[.int .i64 0, .int .i64 0, .int .i32 0] 29)) prio A n cap q v t W.heap.size Eff.zero :=
  ⟨h.on ((Below.refl _ _).alloc (Nat.le_refl _) _), Blk.new _ _ _, h.four.f.lt, fun g hg => (h.mine.lt g hg).2⟩
theorem RunE.on {e : Eff} (h : RunE w W prio A n cap q v t E e) (hb : Below W.heap.size W W') : RunE w W' prio A n cap q v t E e := ⟨h.run.on hb, h.e.below hb h.e.lt, h.lt, h.own⟩
theorem RunE.drew {e : Eff} (h : RunE w W prio A n cap q v t E e) : RunE w W.drew prio A n cap q v t E e := h.on ⟨rfl, rfl, rfl, Nat.le_refl _, fun _ _ => rfl⟩
abbrev setR (W : World) (b : Nat) (g : R4) : World := (((W.setCell ⟨b, 0, none⟩ (.int .i32 g.a)).setCell ⟨b, 1, none⟩ (.int .i32 g.b)).setCell ⟨b, 2, none⟩ (.int .i32 g.c)).setCell ⟨b, 3, none⟩ (.int .i32 g.d)
abbrev setE (W : World) (b : Nat) (f : Eff) : World := ((W.setCell ⟨b, 0, none⟩ (.int .i64 f.op)).setCell ⟨b, 1, none⟩ (.int .i64 f.reg)).setCell ⟨b, 2, none⟩ (.int .i32 f.n)
theorem but_setR (W : World) (b : Nat) (g : R4) : But (fun k => k = b) W (setR W b g) := by
  have h1 := (But.refl (fun k => k = b) W).set ⟨b, 0, none⟩ (.int .i32 g.a) (.inl rfl)
  have h2 := h1.set ⟨b, 1, none⟩ (.int .i32 g.b) (.inl rfl)
  have h3 := h2.set ⟨b, 2, none⟩ (.int .i32 g.c) (.inl rfl)
  exact h3.set ⟨b, 3, none⟩ (.int .i32 g.d) (.inl rfl)
theorem but_setE (W : World) (b : Nat) (f : Eff) : But (fun k => k = b) W (setE W b f) := by
  have h1 := (But.refl (fun k => k = b) W).set ⟨b, 0, none⟩ (.int .i64 f.op) (.inl rfl)
  have h2 := h1.set ⟨b, 1, none⟩ (.int .i64 f.reg) (.inl rfl)
  exact h2.set ⟨b, 2, none⟩ (.int .i32 f.n) (.inl rfl)
theorem Tabs.but {X : Nat → Prop} (h : Tabs W) (hb : But X W W') (h1 : ¬ X 1) (h2 : ¬ X 0) : Tabs W' where
  names k hk := (World.cell?_of_block (hb.block _ h.size.1 h1)).trans (h.names k hk)
  r0 := (World.cell?_of_block (hb.block _ h.size.2 h2)).trans h.r0
  r1 := (World.cell?_of_block (hb.block _ h.size.2 h2)).trans h.r1
  r2 := (World.cell?_of_block (hb.block _ h.size.2 h2)).trans h.r2
  size := ⟨Nat.lt_of_lt_of_le h.size.1 hb.size, Nat.lt_of_lt_of_le h.size.2 hb.size⟩
/-- What a step told is laid down. -/
theorem RunE.put {e : Eff} (hw : Tabs w) (h : RunE w W prio A n cap q v t E e) (g : R4) (f : Eff) : RunE w (setE (setR W (w.heap.size + 1) g) E f) prio A n cap g v t E f := by
  have s1 := hw.size.1; have s2 := hw.size.2
  have h1 : RunI w (setR W (w.heap.size + 1) g) prio A n cap g v t :=
    ⟨h.run.tabs.but (but_setR W _ g) (by omega) (by omega), h.run.four.put g, h.run.mine.but (but_setR W _ g) (fun k hk _ e => by omega)⟩
  have hlt := h.lt
  have he : Blk (setR W (w.heap.size + 1) g) E 29 #[.int .i64 e.op, .int .i64 e.reg, .int .i32 e.n] := h.e.but (but_setR W _ g) (by omega)
  have hb := but_setE (setR W (w.heap.size + 1) g) E f
  refine ⟨⟨h1.tabs.but hb (by omega) (by omega), ?_, ?_⟩, ((he.set_ 0 _).set_ 1 _).set_ 2 _, h.lt, h.own⟩
  · exact ((h1.four.far _ (by dsimp only; omega) _).far _ (by dsimp only; omega) _).far _ (by dsimp only; omega) _
  · refine ⟨h1.mine.1, ?_⟩
    rcases h1.mine.2 with hn | ⟨k, cp, cur, rfl, hbb, hgg, rest⟩
    · exact .inl hn
    · have := h.own k rfl
      exact .inr ⟨k, cp, cur, rfl, hbb, (hb.block k (Array.getElem?_eq_some_iff.1 hgg).1 (by omega)).trans hgg, rest⟩
theorem RunE.putR {e : Eff} (hw : Tabs w) (h : RunE w W prio A n cap q v t E e) (g : R4) : RunE w (setR W (w.heap.size + 1) g) prio A n cap g v t E e := by
  have s1 := hw.size.1; have s2 := hw.size.2
  have hlt := h.lt
  exact ⟨⟨h.run.tabs.but (but_setR W _ g) (by omega) (by omega), h.run.four.put g, h.run.mine.but (but_setR W _ g) (fun k hk _ e => by omega)⟩, h.e.but (but_setR W _ g) (by omega), h.lt, h.own⟩
theorem RunE.cells {e : Eff} (h : RunE w W prio A n cap q v t E e) : W.cell? ⟨E, 0, none⟩ = some (.int .i64 e.op) ∧ W.cell? ⟨E, 1, none⟩ = some (.int .i64 e.reg) ∧ W.cell? ⟨E, 2, none⟩ = some (.int .i32 e.n) ∧ (∀ i, W.frozen? ⟨E, i, none⟩ = false) ∧ w.heap.size + 1 + 1 + 1 < E ∧ E < W.heap.size :=
  ⟨h.e.cell 0, h.e.cell 1, h.e.cell 2, fun i => h.e.free i, h.lt, h.e.lt⟩
end
def RunP (R : Ran) (w : World) (e : Ending) (w' : World) : Prop :=
  ∃ v, Mine w.heap.size v R.told w' ∧ e = .returned (.tuple #[.int .i64 R.pc, regV R.r, v, effV R.e]) ∧ Below w.heap.size w w'
theorem Mine.less {B B' : Nat} {v : Value} {l : List Int} {w : World} (h : Mine B v l w) (hb : B' ≤ B) : Mine B' v l w := by
  refine ⟨h.1, ?_⟩
  rcases h.2 with hn | ⟨g, cap, cur, e, hbb, rest⟩
  · exact .inl hn
  · exact .inr ⟨g, cap, cur, e, Nat.le_trans hb hbb, rest⟩
theorem Four.low {w W W' : World} {prio : Int} {A : Option Addr} {n cap : Nat} {r : R4} (h : Four w W prio A n cap r) (hb : Below (w.heap.size + 1 + 1 + 1 + 1) W W') : Four w W' prio A n cap r :=
  ⟨h.below.trans (hb.mono (by omega)), h.p.below hb (by omega), h.q.below hb (by omega), h.z.below hb (by omega), h.f.below hb (by omega)⟩
theorem RunI.done {w W : World} {prio : Int} {A : Option Addr} {n cap : Nat} {q : R4} {v : Value} {t : List Int} (h : RunI w W prio A n cap q v t) (g : R4) (f : Eff) :
    Mine w.heap.size v t (setE (setR W (w.heap.size + 1 + 1) g) (w.heap.size + 1 + 1 + 1) f) ∧ Below w.heap.size w (setE (setR W (w.heap.size + 1 + 1) g) (w.heap.size + 1 + 1 + 1) f) := by
  have h1 := but_setR W (w.heap.size + 1 + 1) g
  have h2 := but_setE (setR W (w.heap.size + 1 + 1) g) (w.heap.size + 1 + 1 + 1) f
  refine ⟨((h.mine.but h1 (fun k hk _ e => by omega)).but h2 (fun k hk _ e => by omega)).less (by omega), h.four.below.trans ?_⟩
  exact (h1.below h.four.below.size fun k _ e => by omega).trans ((h2.below (B := w.heap.size) (Nat.le_trans h.four.below.size h1.size) fun k _ e => by omega))
theorem RunI.done' {w W : World} {prio : Int} {A : Option Addr} {n cap : Nat} {q : R4} {v : Value} {t : List Int} (h : RunI w W prio A n cap q v t) (g : R4) (f : Eff) :
    Mine w.heap.size v t (setE (setR W (w.heap.size + 1 + 1) g) (w.heap.size + 1 + 1 + 1) f).drew ∧ Below w.heap.size w (setE (setR W (w.heap.size + 1 + 1) g) (w.heap.size + 1 + 1 + 1) f).drew := by
  obtain ⟨h1, h2⟩ := h.done g f
  generalize setE (setR W (w.heap.size + 1 + 1) g) (w.heap.size + 1 + 1 + 1) f = X at *
  exact ⟨h1.on ⟨rfl, rfl, rfl, Nat.le_refl _, fun _ _ => rfl⟩, h2.trans ⟨rfl, rfl, rfl, Nat.le_refl _, fun _ _ => rfl⟩⟩
theorem RunI.cells {w W : World} {prio : Int} {A : Option Addr} {n cap : Nat} {q : R4} {v : Value} {t : List Int} (h : RunI w W prio A n cap q v t) :
    (W.cell? ⟨w.heap.size + 1, 0, none⟩ = some (.int .i32 q.a) ∧ W.cell? ⟨w.heap.size + 1, 1, none⟩ = some (.int .i32 q.b) ∧ W.cell? ⟨w.heap.size + 1, 2, none⟩ = some (.int .i32 q.c) ∧ W.cell? ⟨w.heap.size + 1, 3, none⟩ = some (.int .i32 q.d)) ∧
    (W.cell? ⟨w.heap.size + 1 + 1, 0, none⟩ = some (.int .i32 0) ∧ W.cell? ⟨w.heap.size + 1 + 1, 1, none⟩ = some (.int .i32 0) ∧ W.cell? ⟨w.heap.size + 1 + 1, 2, none⟩ = some (.int .i32 0) ∧ W.cell? ⟨w.heap.size + 1 + 1, 3, none⟩ = some (.int .i32 0)) ∧
    (W.cell? ⟨w.heap.size + 1 + 1 + 1, 0, none⟩ = some (.int .i64 0) ∧ W.cell? ⟨w.heap.size + 1 + 1 + 1, 1, none⟩ = some (.int .i64 0) ∧ W.cell? ⟨w.heap.size + 1 + 1 + 1, 2, none⟩ = some (.int .i32 0)) ∧
    (∀ i, W.frozen? ⟨w.heap.size + 1 + 1, i, none⟩ = false) ∧ (∀ i, W.frozen? ⟨w.heap.size + 1 + 1 + 1, i, none⟩ = false) :=
  ⟨⟨h.four.q.cell 0, h.four.q.cell 1, h.four.q.cell 2, h.four.q.cell 3⟩, ⟨h.four.z.cell 0, h.four.z.cell 1, h.four.z.cell 2, h.four.z.cell 3⟩, ⟨h.four.f.cell 0, h.four.f.cell 1, h.four.f.cell 2⟩, fun i => h.four.z.free i, fun i => h.four.f.free i⟩
end Go.Proofs.YtdjdmkgiidbnnaaDoor
