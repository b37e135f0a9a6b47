/- layer 35 (census): machines without queues among the arguments; counts of states: plain. -/
import Derived.Test.YtnbiklkgkidlnaaCo
import Derived.Test.YtnbiklkgkidlnaaCg
namespace Go.Proofs.Ytnbiklkgkidlnaa
open Go.ChangeShapes Go.WideShapes Go.ChangeAt Go.RowKit
set_option maxRecDepth 100000

/-- a task of a machine without queues. -/
structure TkS where
  a : Int
  b : Int
  c : Int
  d : Int
  e : Int
  f : Int
  st : Int
  on : Int
def tkC (x : TkS) : List Value := [.int .i64 x.a, .int .i64 x.b, .int .i32 x.c, .int .i32 x.d, .int .i32 x.e, .int .i32 x.f, .int .i64 x.st, .int .i64 x.on]
theorem tkC_len (x : TkS) : (tkC x).length = 8 := rfl
theorem tkC_one (x : TkS) : (tkC x).toArray.all (·.oneCell') = true := by
  rw [Array.all_eq_true']
  intro v hv
  simp only [tkC, List.mem_toArray, List.mem_cons, List.not_mem_nil, or_false] at hv
  rcases hv with rfl | rfl | rfl | rfl | rfl | rfl | rfl | rfl <;> rfl
theorem infoTk : (Try.prog.info? 34).map (·.size) = some 8 := by kernel_rfl
/-- rows of tasks that may be read. -/
def RowT (B : Nat) (w : World) (A : Option Addr) (L : List TkS) : Prop :=
  ∀ (i : Nat) x, L[i]? = some x → ∃ b off, A = some ⟨b, off, none⟩ ∧ b < B ∧ w.rangeAt b (off + i * 8) (tkC x)
theorem RowT.below {B : Nat} {w w' : World} {A : Option Addr} {L : List TkS} (h : RowT B w A L) (hb : Below B w w') : RowT B w' A L := fun i d hd => by
  obtain ⟨b, off, e, hlt, hr⟩ := h i d hd
  exact ⟨b, off, e, hlt, fun j u hu => (hb.cell (p := ⟨b, _, none⟩) hlt).trans (hr j u hu)⟩
theorem RowT.mono {B B' : Nat} {w : World} {A : Option Addr} {L : List TkS} (h : RowT B w A L) (hB : B ≤ B') : RowT B' w A L := fun i d hd => by
  obtain ⟨b, off, e, hlt, hr⟩ := h i d hd
  exact ⟨b, off, e, by omega, hr⟩
section
variable {H : Type} {enc : TypeId × Value → H} {w : World} {base b0 : Nat} {spare : Nat → Bool} {held : Bool} {r : Reach}
theorem one32 {m : Nat} {c : List Value} {d : DataW H} {ps : List MemPlace} (h : DataW.trod enc Try.prog w base spare held m 21 c = some (d, ps)) : ∃ e : Int, c = [.int .i32 e] := by
  obtain ⟨n0, e0, _, w0⟩ := DataW.trod_int Try.underlying21 h
  exact ⟨n0, by simpa using e0⟩
theorem one_tk {m : Nat} {c : List Value} {d : DataW H} {ps : List MemPlace} (hc : c.length = 8) (h : DataW.trod enc Try.prog w base spare held m 34 c = some (d, ps)) : ∃ x : TkS, c = tkC x ∧ True := by
  obtain ⟨xs, mm, _, _, _, hxl, hg⟩ := DataW.trod_struct Try.underlying34 h
  have g0 := hg 0 ⟨"Prog", 3, 0, false, "", "", 0⟩ rfl
  have g1 := hg 1 ⟨"Pc", 3, 1, false, "", "", 8⟩ rfl
  have g2 := hg 2 ⟨"Regs", 32, 2, false, "", "", 16⟩ rfl
  have g3 := hg 3 ⟨"State", 3, 6, false, "", "", 32⟩ rfl
  have g4 := hg 4 ⟨"On", 3, 7, false, "", "", 40⟩ rfl
  dsimp only at g0 g1 g2 g3 g4
  rw [show Try.prog.cellsOf 3 = 1 by kernel_rfl] at g0 g1 g3 g4
  rw [show Try.prog.cellsOf 32 = 4 by kernel_rfl] at g2
  have l5 : xs.length = 5 := hxl
  rw [List.getElem?_eq_getElem (by omega)] at g0 g1 g2 g3 g4
  match c, hc with
  | [u0, u1, u2, u3, u4, u5, u6, u7], _ =>
    simp only [List.drop_zero, List.drop_succ_cons, List.take_succ_cons, List.take_zero] at g0 g1 g2 g3 g4
    obtain ⟨m0, q0, w0⟩ := one1 g0
    obtain ⟨m1, q1, w1⟩ := one1 g1
    obtain ⟨m3, q3, w3⟩ := one1 g3
    obtain ⟨m4, q4, w4⟩ := one1 g4
    obtain ⟨ys, _, _, _, _, hyl, hi⟩ := DataW.trod_array Try.underlying32 g2
    have f0 := hi 0 (by omega); have f1 := hi 1 (by omega); have f2 := hi 2 (by omega); have f3 := hi 3 (by omega)
    rw [show Try.prog.cellsOf 21 = 1 by kernel_rfl] at f0 f1 f2 f3
    rw [List.getElem?_eq_getElem (by omega)] at f0 f1 f2 f3
    simp only [Nat.mul_one, List.drop_succ_cons, List.drop_zero, List.take_succ_cons, List.take_zero] at f0 f1 f2 f3
    obtain ⟨n0, e0⟩ := one32 f0
    obtain ⟨n1, e1⟩ := one32 f1
    obtain ⟨n2, e2⟩ := one32 f2
    obtain ⟨n3, e3⟩ := one32 f3
    cases q0; cases q1; cases q3; cases q4; cases e0; cases e1; cases e2; cases e3
    exact ⟨⟨m0, m1, n0, n1, n2, n3, m3, m4⟩, rfl, trivial⟩
/-- A machine among the arguments: its tasks; its other cells, whatever they are. -/
theorem open_flat {v : Value} {d : DataW H} {ps : List MemPlace} (hv : Value.okWide Try.prog w r b0 28 v) (h : DataW.Trod enc Try.prog w base spare held 28 v d ps) :
    ∃ (A : Option Addr) (l : List TkS) (n cap : Nat) (R : List Value), v = .agg (.slice A n cap :: R).toArray ∧ R.length = 18 ∧ l.length = n ∧ n ≤ cap ∧ RowT w.heap.size w A l := by
  have hc : Try.prog.cellsOf 28 = 19 := by kernel_rfl
  unfold Value.okWide at hv
  rw [Try.underlying28] at hv
  obtain ⟨cs, rfl, hs, _⟩ := hv
  rw [hc] at hs
  obtain ⟨fuel, hf⟩ := h
  obtain ⟨xs, m, _, _, _, hxl, hg⟩ := DataW.trod_struct Try.underlying28 hf
  have g0 := hg 0 ⟨"Tasks", 22, 0, false, "", "", 0⟩ rfl
  dsimp only at g0
  rw [show Try.prog.cellsOf 22 = 1 by kernel_rfl] at g0
  have l4 : xs.length = 4 := hxl
  rw [List.getElem?_eq_getElem (by omega)] at g0
  have hcl : (Value.agg cs).cells.toList.length = 19 := by simpa [Value.cells] using hs
  generalize hL : (Value.agg cs).cells.toList = L at g0 hcl
  have hcs : cs = L.toArray := by rw [← hL]; simp [Value.cells]
  subst hcs
  clear hL
  obtain ⟨A, ts, c, e0, hcap, hts⟩ := open_rows (α := TkS) (n := 8) Try.underlying22 (by kernel_rfl) (by decide) tkC (fun _ => True) ⟨0, 0, 0, 0, 0, 0, 0, 0⟩ (fun m c d ps hc h => one_tk hc h) g0
  match L, hcl with
  | u :: R, hcl =>
    simp only [List.drop_zero, List.take_succ_cons, List.take_zero, List.cons.injEq, and_true] at e0
    subst e0
    refine ⟨A, ts, ts.length, c, R, rfl, by simpa using hcl, rfl, hcap, fun i x hx => ?_⟩
    obtain ⟨_, b, off, ea, hb, hcell⟩ := hts i x hx
    exact ⟨b, off, ea, hb, fun j u hj => hcell j u hj⟩
end
/-- how many are in each state. -/
def bumpS (c : List Nat) (s : Int) : List Nat := if 0 ≤ s ∧ s < 9 then bump c s.toNat else c
def statL (L : List TkS) : List Nat := L.foldl (fun c x => bumpS c x.st) (List.replicate 9 0)
def inS (k : Nat) (L : List TkS) : Nat := L.countP fun x => decide (x.st = ((k : Nat) : Int))
theorem statL_snoc (L : List TkS) (x : TkS) : statL (L ++ [x]) = bumpS (statL L) x.st := by unfold statL; rw [List.foldl_append]; rfl
theorem bumpS_len (c : List Nat) (s : Int) : (bumpS c s).length = c.length := by unfold bumpS; split; exact bump_len _ _; rfl
theorem statL_len (L : List TkS) : (statL L).length = 9 := by
  induction L using snoc_ind with
  | h0 => rfl
  | h1 l x ih => rw [statL_snoc, bumpS_len, ih]
theorem inS_snoc (k : Nat) (L : List TkS) (x : TkS) : inS k (L ++ [x]) = inS k L + if x.st = ((k : Nat) : Int) then 1 else 0 := by
  unfold inS; rw [List.countP_append]; simp [List.countP_cons]
theorem statL_get (L : List TkS) (k : Nat) (hk : k < 9) : (statL L)[k]? = some (inS k L) := by
  induction L using snoc_ind with
  | h0 =>
    have : ∀ k, k < 9 → (statL [])[k]? = some 0 := by decide
    rw [this k hk]; rfl
  | h1 l x ih =>
    rw [statL_snoc, inS_snoc]
    unfold bumpS
    by_cases hs : 0 ≤ x.st ∧ x.st < 9
    · rw [if_pos hs]
      unfold bump
      rw [List.getElem?_set]
      by_cases hx : x.st.toNat = k
      · have e : x.st = (k : Int) := by omega
        rw [if_pos hx, if_pos (by rw [statL_len]; omega), if_pos e, hx, List.getD_eq_getElem?_getD, ih]; rfl
      · rw [if_neg hx, ih, if_neg (by omega)]; rfl
    · rw [if_neg hs, ih, if_neg (by omega)]; rfl
theorem inS_le (k : Nat) (L : List TkS) : inS k L ≤ L.length := List.countP_le_length
end Go.Proofs.Ytnbiklkgkidlnaa
