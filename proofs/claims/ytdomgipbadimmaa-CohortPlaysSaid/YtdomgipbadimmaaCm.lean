/- Locks of cohort in memory (layer 14): whose each block is, a lock's round, a lock. -/
import Derived.Test.YtdomgipbadimmaaCp
import Derived.Test.YtdomgipbadimmaaCu
namespace Go.Proofs.Ytdomgipbadimmaa
open Go.RowKit
set_option maxRecDepth 100000

/-- Whose a block is: nobody's that is known, the locks' own, the i-th lock's round, its tasks' of a socket. -/
inductive LabC where
  | no | locks | round (i : Nat) | tasks (i : Nat) (s : Int)
/-- Of lock i. -/
def OfLock (i : Nat) : LabC → Prop
  | .round j => j = i
  | .tasks j _ => j = i
  | _ => False
/-- A row of tasks that wait. -/
structure TaskM (w : World) (lab : Nat → LabC) (i : Nat) (s : Int) (tv : Value) (ts : List Int) : Prop where
  cut : CutR 0 tv ts w
  lab : ∀ k, RowB tv k → lab k = .tasks i s
/-- The rows of a block of a round. -/
def RowsM (w : World) (lab : Nat → LabC) (i : Nat) (cs : Array Value) (L : List CRow) : Prop :=
  ∀ j r, L[j]? = some r → cs[2 * j]? = some (.int .i64 r.1) ∧ ∃ tv, cs[2 * j + 1]? = some tv ∧ TaskM w lab i r.1 tv r.2
/-- A lock's round. -/
def RndM (w : World) (lab : Nat → LabC) (i : Nat) (rv : Value) (L : List CRow) : Prop :=
  (rv = .slice none 0 0 ∧ L = []) ∨ ∃ (g cap : Nat) (cs : Array Value), rv = .slice (some ⟨g, 0, none⟩) L.length cap ∧ L.length ≤ cap ∧ lab g = .round i ∧ Blk w g 105 cs ∧ cs.size = 2 * cap ∧ RowsM w lab i cs L
/-- The cells of the i-th lock; where its round is. -/
structure LockV (cs : Array Value) (i : Nat) (c : Coh) (rv : Value) : Prop where
  c0 : cs[4 * i]? = some (.int .i64 c.own)
  c1 : cs[4 * i + 1]? = some (.int .i64 c.soc)
  c2 : cs[4 * i + 2]? = some (.int .i64 c.pas)
  c3 : cs[4 * i + 3]? = some rv
/-- The i-th lock. -/
structure LockM (w : World) (lb : Nat) (lab : Nat → LabC) (i : Nat) (c : Coh) (cs : Array Value) (rv : Value) : Prop where
  blk : Blk w lb 89 cs
  val : LockV cs i c rv
  rnd : RndM w lab i rv c.rnd
  own : lab lb = .locks
  fre : ∀ k, w.heap.size ≤ k → lab k = .no
/-- What a call at lock i may write. -/
def XLock (lb : Nat) (lab : Nat → LabC) (i : Nat) (k : Nat) : Prop := k = lb ∨ OfLock i (lab k)
/-- Who has which block, behind a call at lock i: those that were there have who they had. -/
structure LabUp (lab lab' : Nat → LabC) (i : Nat) (w : World) : Prop where
  old : ∀ k, k < w.heap.size → lab' k = lab k
  new : ∀ k, w.heap.size ≤ k → lab' k = .no ∨ OfLock i (lab' k) ∨ lab' k = lab k
theorem LabUp.refl (lab : Nat → LabC) (i : Nat) (w : World) : LabUp lab lab i w := ⟨fun _ _ => rfl, fun _ _ => .inr (.inr rfl)⟩
theorem LabUp.trans {a b c : Nat → LabC} {i : Nat} {w w' : World} (h : LabUp a b i w) (k : LabUp b c i w') (hs : w.heap.size ≤ w'.heap.size) : LabUp a c i w :=
  ⟨fun x hx => (k.old x (by omega)).trans (h.old x hx), fun x hx => by
    by_cases hy : x < w'.heap.size
    · rw [k.old x hy]; exact h.new x hx
    · rcases k.new x (by omega) with q | q | q
      · exact .inl q
      · exact .inr (.inl q)
      · rw [q]; exact h.new x hx⟩
/-- A block more that is somebody's. -/
def labSet (lab : Nat → LabC) (g : Nat) (x : LabC) : Nat → LabC := fun k => if k = g then x else lab k
theorem labSet_same (lab : Nat → LabC) (g : Nat) (x : LabC) : labSet lab g x g = x := by unfold labSet; rw [if_pos rfl]
theorem labSet_other (lab : Nat → LabC) {g k : Nat} (x : LabC) (h : k ≠ g) : labSet lab g x k = lab k := by unfold labSet; rw [if_neg h]
theorem labUp_set (lab : Nat → LabC) {i g : Nat} {x : LabC} {w : World} (hg : w.heap.size ≤ g) (hx : OfLock i x) : LabUp lab (labSet lab g x) i w :=
  ⟨fun k hk => labSet_other _ _ (by omega), fun k _ => by
    by_cases e : k = g
    · subst e; rw [labSet_same]; exact .inr (.inl hx)
    · rw [labSet_other _ _ e]; exact .inr (.inr rfl)⟩
section
variable {w w' : World} {lab lab' : Nat → LabC} {i lb : Nat} {s : Int} {tv rv : Value} {ts : List Int} {L : List CRow} {cs : Array Value} {c : Coh}
theorem TaskM.lt (h : TaskM w lab i s tv ts) {k : Nat} (hk : RowB tv k) : k < w.heap.size := (h.cut.lt hk).2
theorem TaskM.but {X : Nat → Prop} (h : TaskM w lab i s tv ts) (hb : But X w w') (hX : ∀ k, lab k = .tasks i s → ¬ X k) (hl : ∀ k, k < w.heap.size → lab' k = lab k) : TaskM w' lab' i s tv ts :=
  ⟨h.cut.but hb (fun k hk => hX k (h.lab k hk)), fun k hk => (hl k (h.lt hk)).trans (h.lab k hk)⟩
theorem RowsM.but {X : Nat → Prop} (h : RowsM w lab i cs L) (hb : But X w w') (hX : ∀ k r, r ∈ L → lab k = .tasks i r.1 → ¬ X k) (hl : ∀ k, k < w.heap.size → lab' k = lab k) : RowsM w' lab' i cs L := fun j r hr => by
  obtain ⟨h1, tv, h2, h3⟩ := h j r hr
  exact ⟨h1, tv, h2, h3.but hb (fun k hk => hX k r (List.mem_of_getElem? hr) hk) hl⟩
theorem RndM.but {X : Nat → Prop} (h : RndM w lab i rv L) (hb : But X w w') (hX : ∀ k, OfLock i (lab k) → ¬ X k) (hl : ∀ k, k < w.heap.size → lab' k = lab k) : RndM w' lab' i rv L := by
  rcases h with h | ⟨g, cap, cs, e, hc, hg, hk, hs, hr⟩
  · exact .inl h
  · exact .inr ⟨g, cap, cs, e, hc, (hl g hk.lt).trans hg, hk.but hb (hX g (by rw [hg]; exact rfl)), hs, hr.but hb (fun k r _ e => hX k (by rw [e]; exact rfl)) hl⟩
theorem RndM.nob (h : RndM w lab i rv L) (hb : But Nob w w') : RndM w' lab i rv L := h.but hb (fun _ _ q => q) (fun _ _ => rfl)
theorem RndM.below (h : RndM w lab i rv L) (hb : Below w.heap.size w w') : RndM w' lab i rv L := h.nob (But.of_below hb)
theorem LockM.nob (h : LockM w lb lab i c cs rv) (hb : But Nob w w') : LockM w' lb lab i c cs rv := ⟨h.blk.but hb id, h.val, h.rnd.nob hb, h.own, fun k hk => h.fre k (Nat.le_trans hb.size hk)⟩
theorem LockM.below (h : LockM w lb lab i c cs rv) (hb : Below w.heap.size w w') : LockM w' lb lab i c cs rv := h.nob (But.of_below hb)
theorem RndM.slice (h : RndM w lab i rv L) : ∃ A cap, rv = .slice A L.length cap ∧ L.length ≤ cap := by
  rcases h with ⟨rfl, rfl⟩ | ⟨g, cap, cs, rfl, hc, _⟩
  · exact ⟨none, 0, rfl, Nat.le_refl _⟩
  · exact ⟨_, cap, rfl, hc⟩
/-- A round that is not empty. -/
theorem RndM.some_ (h : RndM w lab i rv L) (hL : L ≠ []) : ∃ (g cap : Nat) (cs : Array Value), rv = .slice (some ⟨g, 0, none⟩) L.length cap ∧ L.length ≤ cap ∧ lab g = .round i ∧ Blk w g 105 cs ∧ cs.size = 2 * cap ∧ RowsM w lab i cs L := by
  rcases h with ⟨_, e⟩ | h
  · exact absurd e hL
  · exact h
theorem LockV.lt (h : LockV cs i c rv) : 4 * i + 3 < cs.size := (Array.getElem?_eq_some_iff.1 h.c3).1
end
/-- A lock that may be: its rows are of sockets of their own, and none is empty. -/
structure CohOk (c : Coh) : Prop where
  soc : (c.rnd.map (·.1)).Nodup
  one : ∀ r ∈ c.rnd, r.2 ≠ []
  tsk : ∀ r ∈ c.rnd, ∀ x ∈ r.2, 0 ≤ x
  own : -1 ≤ c.own
  non : c.own = -1 → c = zCoh
  pas : 0 ≤ c.pas
/-- How much there is of it. -/
structure CohB (c : Coh) (m : Nat) : Prop where
  pas : c.pas ≤ m
  rnd : c.rnd.length ≤ m
  row : ∀ r ∈ c.rnd, r.2.length ≤ m
end Go.Proofs.Ytdomgipbadimmaa
