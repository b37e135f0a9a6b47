/- Instructions done (layer 10), told plainly: registers, effects, one step, a run. -/
import Derived.Test.YtilaalleiiakoaaDoorBu
import Derived.Test.YtilaalleiiakoaaDoorProg
namespace Go.Proofs.YtilaalleiiakoaaDoor

/-- A task's registers. -/
structure R4 where
  a : Int
  b : Int
  c : Int
  d : Int
  deriving DecidableEq
def R4.get (r : R4) : Nat → Int
  | 0 => r.a
  | 1 => r.b
  | 2 => r.c
  | _ => r.d
def R4.put (r : R4) (k : Nat) (v : Int) : R4 :=
  match k with
  | 0 => { r with a := v }
  | 1 => { r with b := v }
  | 2 => { r with c := v }
  | _ => { r with d := v }
def In32 (n : Int) : Prop := -2147483648 ≤ n ∧ n ≤ 2147483647
structure R4.Ok (r : R4) : Prop where
  a : In32 r.a
  b : In32 r.b
  c : In32 r.c
  d : In32 r.d
theorem R4.Ok.get {r : R4} (h : r.Ok) (k : Nat) : In32 (r.get k) := by
  unfold R4.get; split
  · exact h.a
  · exact h.b
  · exact h.c
  · exact h.d
theorem R4.Ok.put {r : R4} (h : r.Ok) (k : Nat) {v : Int} (hv : In32 v) : (r.put k v).Ok := by
  unfold R4.put; split
  · exact ⟨hv, h.b, h.c, h.d⟩
  · exact ⟨h.a, hv, h.c, h.d⟩
  · exact ⟨h.a, h.b, hv, h.d⟩
  · exact ⟨h.a, h.b, h.c, hv⟩
abbrev regV (r : R4) : Value := .agg #[.int .i32 r.a, .int .i32 r.b, .int .i32 r.c, .int .i32 r.d]
/-- What an instruction asks. -/
structure Eff where
  op : Int
  reg : Int
  n : Int
  deriving DecidableEq
def Eff.zero : Eff := ⟨0, 0, 0⟩
def Eff.refused : Eff := ⟨14, 0, -1⟩
/-- A number as a word. -/
def word32 (n : Int) : Int := if 2147483648 ≤ n % 4294967296 then n % 4294967296 - 4294967296 else n % 4294967296
theorem word32_in (n : Int) : In32 (word32 n) := by unfold word32 In32; split <;> omega
abbrev effV (e : Eff) : Value := .agg #[.int .i64 e.op, .int .i64 e.reg, .int .i32 e.n]
/-- Where a step goes on, its registers, what it asks. -/
structure Got where
  pc : Int
  r : R4
  e : Eff
  deriving DecidableEq
/-- One instruction done at its place. -/
def stepP (x : I4) (pc : Int) (r : R4) : Got :=
  if x.op = 1 then ⟨pc + 1, r.put x.a.toNat x.n, Eff.zero⟩
  else if x.op = 2 then ⟨pc + 1, r.put x.a.toNat (word32 (r.get x.a.toNat + r.get x.b.toNat)), Eff.zero⟩
  else if x.op = 3 then ⟨pc + 1, r.put x.a.toNat (word32 (r.get x.a.toNat - r.get x.b.toNat)), Eff.zero⟩
  else if x.op = 4 then ⟨x.n, r, Eff.zero⟩
  else if x.op = 5 then ⟨if r.get x.a.toNat = 0 then pc + 1 else x.n, r, Eff.zero⟩
  else if x.op = 6 then ⟨pc + 1, r, ⟨6, 0, 0⟩⟩
  else if x.op = 7 ∨ x.op = 9 ∨ x.op = 10 ∨ x.op = 12 then ⟨pc + 1, r, ⟨x.op, x.a, x.n⟩⟩
  else if x.op = 8 then ⟨pc + 1, r, ⟨8, x.b, r.get x.a.toNat⟩⟩
  else if x.op = 11 ∨ x.op = 13 then ⟨pc + 1, r, ⟨x.op, 0, r.get x.a.toNat⟩⟩
  else ⟨pc, r, ⟨14, 0, r.get x.a.toNat⟩⟩
/-- An instruction that may be, in a program of so many places. -/
structure May (x : I4) (places : Nat) : Prop where
  op : 1 ≤ x.op ∧ x.op ≤ 14
  a : 0 ≤ x.a ∧ x.a < 4
  b : 0 ≤ x.b ∧ x.b < 4
  n : In32 x.n
  to : x.op = 4 ∨ x.op = 5 → 0 ≤ x.n ∧ x.n < places
theorem regOk_in {r : Int} {one : Bool} (h : regOk r one = true) : 0 ≤ r ∧ r < 4 := by
  unfold regOk at h; cases one <;> simp at h <;> omega
theorem may_of {x : I4} {places : Nat} (h : insE x places = 0) (hn : In32 x.n) : May x places := by
  unfold insE at h
  split at h
  · omega
  · split at h
    · omega
    · rename_i h1 h2
      have ha : regOk x.a (hasA x.op) = true := by cases q : regOk x.a (hasA x.op) <;> simp_all
      have hb : regOk x.b (hasB x.op) = true := by cases q : regOk x.b (hasB x.op) <;> simp_all
      refine ⟨by omega, regOk_in ha, regOk_in hb, hn, fun ho => ?_⟩
      unfold numE at h
      rw [if_neg (by omega), if_pos ho] at h
      split at h <;> omega
theorem codeE_may {places : Int} : ∀ {l : List I4} {i : Nat}, (codeE places l i).1 = 0 → ∀ (k : Nat) (x : I4), l[k]? = some x → insE x places = 0
  | [], _, _, k, x, h => by simp at h
  | y :: l, i, h, k, x, hx => by
    unfold codeE at h
    by_cases hy : insE y places = 0
    · rw [if_pos hy] at h
      match k with
      | 0 => simp at hx; subst hx; exact hy
      | k + 1 => exact codeE_may h k x (by simpa using hx)
    · rw [if_neg hy] at h; exact absurd h hy
/-- A program in which nothing is wrong. -/
structure Fine (prio : Int) (l : List I4) : Prop where
  ok : progE prio l = (0, 0)
  len : 1 ≤ l.length ∧ l.length ≤ 64
  ins : ∀ (k : Nat) (x : I4), l[k]? = some x → insE x l.length = 0
  last : lastOp l = 4 ∨ lastOp l = 14
theorem fine_of {prio : Int} {l : List I4} (h : (progE prio l).1 = 0) : Fine prio l := by
  have h0 := h
  unfold progE at h
  split at h
  · simp at h
  · split at h
    · simp at h
    · split at h
      · rename_i h1 h2 h3
        split at h
        · rename_i h4
          refine ⟨?_, by omega, codeE_may h3, h4⟩
          unfold progE; rw [if_neg h1, if_neg h2, if_pos h3, if_pos h4]
        · simp at h
      · rename_i h3; exact absurd h h3
theorem Fine.may {prio : Int} {l : List I4} (h : Fine prio l) {k : Nat} {x : I4} (hx : l[k]? = some x) (hn : In32 x.n) : May x l.length := may_of (h.ins k x hx) hn
/-- A step of any program at any place. -/
def stepF (prio : Int) (l : List I4) (pc : Int) (r : R4) : Got :=
  if (progE prio l).1 = 0 ∧ 0 ≤ pc then
    match l[pc.toNat]? with
    | some x => stepP x pc r
    | none => ⟨pc, r, Eff.refused⟩
  else ⟨pc, r, Eff.refused⟩
theorem stepF_in {prio : Int} {l : List I4} {k : Nat} {x : I4} {r : R4} (h : (progE prio l).1 = 0) (hx : l[k]? = some x) : stepF prio l k r = stepP x k r := by
  unfold stepF
  rw [if_pos ⟨h, by omega⟩, show (k : Int).toNat = k by omega, hx]
theorem stepF_bad {prio : Int} {l : List I4} {pc : Int} {r : R4} (h : (progE prio l).1 ≠ 0) : stepF prio l pc r = ⟨pc, r, Eff.refused⟩ := by
  unfold stepF; rw [if_neg (fun q => h q.1)]
theorem stepF_low {prio : Int} {l : List I4} {pc : Int} {r : R4} (h : pc < 0) : stepF prio l pc r = ⟨pc, r, Eff.refused⟩ := by
  unfold stepF; rw [if_neg (by omega)]
theorem stepF_high {prio : Int} {l : List I4} {pc : Int} {r : R4} (h : (l.length : Int) ≤ pc) : stepF prio l pc r = ⟨pc, r, Eff.refused⟩ := by
  unfold stepF; split
  · rw [List.getElem?_eq_none (by omega)]
  · rfl
/-- From a place of a fine program a step goes to a place of it. -/
theorem stepP_pc {prio : Int} {l : List I4} (h : Fine prio l) {k : Nat} {x : I4} (hx : l[k]? = some x) (hn : In32 x.n) (r : R4) : ∃ j : Nat, (stepP x k r).pc = j ∧ j < l.length := by
  have hm := h.may hx hn
  have hk := (List.getElem?_eq_some_iff.1 hx).1
  have hnext : x.op ≠ 4 → x.op ≠ 14 → k + 1 < l.length := fun h4 h14 => by
    by_cases e : k + 1 = l.length
    · have hl : lastOp l = x.op := lastOp_at (by rw [show l.length - 1 = k by omega]; exact hx)
      have := h.last; omega
    · omega
  obtain ⟨o1, o2⟩ := hm.op
  have ht := hm.to
  have hj : ∀ p : Int, 0 ≤ p → p < l.length → ∃ j : Nat, p = j ∧ j < l.length := fun p p0 p1 => ⟨p.toNat, by omega, by omega⟩
  unfold stepP
  repeat' split
  all_goals
    dsimp only
    refine hj _ ?_ ?_ <;> (try split) <;> omega
theorem stepP_regs {x : I4} {pc : Int} {r : R4} (h : r.Ok) (hn : In32 x.n) : (stepP x pc r).r.Ok := by
  unfold stepP
  repeat' split
  all_goals first | exact h | exact h.put _ hn | exact h.put _ (word32_in _)
theorem stepP_zero {x : I4} {pc : Int} {r : R4} (h : (stepP x pc r).e.op = 0) : (stepP x pc r).e = Eff.zero := by
  unfold stepP at *
  repeat' split at h
  all_goals (simp_all <;> omega)
/-- What a run has come to. -/
structure Ran where
  pc : Int
  r : R4
  told : List Int
  e : Eff
  deriving DecidableEq
def runF (prio : Int) (l : List I4) : Nat → Int → R4 → List Int → Ran
  | 0, pc, r, t => ⟨pc, r, t, Eff.zero⟩
  | k + 1, pc, r, t =>
    if (stepF prio l pc r).e.op = 13 then runF prio l k (stepF prio l pc r).pc (stepF prio l pc r).r (t ++ [(stepF prio l pc r).e.n])
    else if (stepF prio l pc r).e.op = 0 ∨ (stepF prio l pc r).e.op = 6 then runF prio l k (stepF prio l pc r).pc (stepF prio l pc r).r t
    else ⟨(stepF prio l pc r).pc, (stepF prio l pc r).r, t, (stepF prio l pc r).e⟩
end Go.Proofs.YtilaalleiiakoaaDoor
