/- The document's lock in memory (layer 14). -/
import Derived.Test.YtdomgipbadimmaaE1
import Derived.Test.YtdomgipbadimmaaD7
import Derived.Test.YtdomgipbadimmaaC7
import Derived.Laws.OwnMore
import Derived.Laws.AppendOwnNone
namespace Go.Proofs.Ytdomgipbadimmaa
open Go.RowKit
set_option maxRecDepth 100000

section
variable {W : World} {E : List Ent} {c : Coh} {B : Nat → Prop} {pb lb mb : Nat} {lab : Nat → LabC} {ks : List Coh} {w w' : World}
theorem WaitR.form {B : Nat} {v : Value} (h : WaitR B v E W) (hne : 0 < E.length) : ∃ g cap, v = .slice (some ⟨g, 0, none⟩) E.length cap ∧ E.length ≤ cap ∧ g < W.heap.size := by
  have hc := h
  rcases h.2 with ⟨rfl, hn⟩ | ⟨g, cap, cur, rfl, hg, hh, hcap, _⟩
  · omega
  · exact ⟨g, cap, rfl, hcap, (World.ownsRow.lt hc g rfl).2⟩
theorem wait_lit (B : Nat) (W : World) (hB : B ≤ W.heap.size) : WaitR B (.slice (some ⟨W.heap.size, 0, none⟩) 0 0) [] (W.alloc (.cells #[] 62)) := by
  have := World.ownsRow_lit (base := B) (e := 62) (size := 2) W #[] 0 hB (by unfold maxLen; omega) rfl
  exact this
theorem give_none (hg : goesC c = false) : giveC c = zCoh := by
  unfold goesC at hg
  simp only [Bool.or_eq_false_iff, decide_eq_false_iff_not] at hg
  unfold giveC
  rw [if_neg (by omega), if_neg (by omega)]
theorem CohL.far (h : CohL B pb lb lab ks w) (hb : But (fun x => x = mb) w w') (hm : ¬ B mb) : CohL B pb lb lab ks w' := by
  have hno : ∀ k, lab k ≠ .no → ¬ k = mb := fun k hk e => hm (e ▸ h.old k hk)
  obtain ⟨cs, a, b, d⟩ := h.blk
  exact ⟨h.box.but hb (hno _ (by rw [h.pwn]; intro e; cases e)), ⟨cs, a.but hb (hno _ (by rw [h.own]; intro e; cases e)), b, fun i c hc => let ⟨rv, x, y⟩ := d i c hc; ⟨rv, x, y.but hb (fun k hk => hno k (fun e => by rw [e] at hk; exact hk)) (fun _ _ => rfl)⟩⟩, h.own, h.pwn, h.pne, fun k q => h.fre k (Nat.le_trans hb.size q), h.old, h.ok⟩
end
/-- A row that may be read, in a block of D. -/
def SIn (D : Nat → Prop) (v : Value) (n : Nat) (cs : List Value) (W : World) : Prop :=
  ∃ A cap, v = .slice A n cap ∧ n ≤ cap ∧ (A = none → cap = 0) ∧ (∀ a, A = some a → ∃ g, a = ⟨g, 0, none⟩ ∧ D g ∧ g < W.heap.size) ∧ ∀ g, A = some ⟨g, 0, none⟩ → ∀ j u, cs[j]? = some u → W.cell? ⟨g, j, none⟩ = some u
section
variable {D D' X : Nat → Prop} {v : Value} {n : Nat} {cs : List Value} {W W' : World}
theorem sin_nil (D : Nat → Prop) (W : World) : SIn D (.slice none 0 0) 0 [] W := ⟨none, 0, rfl, Nat.le_refl _, fun _ => rfl, (fun a e => by cases e), fun g e => by cases e⟩
theorem SIn.mono (h : SIn D v n cs W) (hD : ∀ g, g < W.heap.size → D g → D' g) : SIn D' v n cs W := by
  obtain ⟨A, cap, a, b, d, e, f⟩ := h
  exact ⟨A, cap, a, b, d, fun q hq => let ⟨g, x, y, z⟩ := e q hq; ⟨g, x, hD g z y, z⟩, f⟩
theorem SIn.but (h : SIn D v n cs W) (hb : But X W W') (hX : ∀ g, D g → ¬ X g) : SIn D v n cs W' := by
  obtain ⟨A, cap, a, b, d, e, f⟩ := h
  refine ⟨A, cap, a, b, d, fun q hq => let ⟨g, x, y, z⟩ := e q hq; ⟨g, x, y, Nat.lt_of_lt_of_le z hb.size⟩, fun g hg j u hu => ?_⟩
  obtain ⟨g', hg', dg, hlt⟩ := e _ hg
  cases hg'
  have h0 := f g hg j u hu
  exact (World.cell?_of_block (w := W) (a := ⟨g, j, none⟩) (hb.block g hlt (hX g dg))).trans h0
theorem But.cell0 {g j : Nat} (hb : But X W W') (hlt : g < W.heap.size) (hX : ¬ X g) : W'.cell? ⟨g, j, none⟩ = W.cell? ⟨g, j, none⟩ := World.cell?_of_block (w := W) (a := ⟨g, j, none⟩) (hb.block g hlt hX)
theorem SIn.below (h : SIn D v n cs W) (hb : Below W.heap.size W W') : SIn D v n cs W' := h.but (X := Nob) (But.of_below hb) fun _ _ q => q
theorem SIn.of_owns {B size : Nat} {t : TypeId} (h : W.ownsRow B t size v n cs) : SIn (fun g => B ≤ g) v n cs W := by
  have hc := h
  rcases h.2 with ⟨rfl, rfl⟩ | ⟨g, cap, cur, rfl, hg, hh, hcap, _⟩
  · exact ⟨none, 0, rfl, Nat.le_refl _, fun _ => rfl, (fun a e => by cases e), fun g e => by cases e⟩
  · refine ⟨_, cap, rfl, hcap, (fun e => by cases e), fun a e => by cases e; exact ⟨g, rfl, hg, (hc.lt g rfl).2⟩, fun g' e j u hu => ?_⟩
    cases e
    have := World.ownsRow.cells hc (g := g) rfl j u hu
    have hadd : (⟨g, 0, none⟩ : Addr).add j = ⟨g, j, none⟩ := by unfold Addr.add; split <;> simp_all
    rw [hadd] at this; exact this
end
/-- The cells of the document's lock. -/
def dcells (c : Coh) (wv rv : Value) : List Value := [.bool (heldD c), .int .i64 (ownD c), .int .i64 c.soc, .int .i64 c.pas, wv, rv]
structure DLk (D : Nat → Prop) (c : Coh) (E : List Ent) (wv rv : Value) (W : World) : Prop where
  wts : SIn D wv E.length (entC E) W
  rnd : SIn D rv (rndL c).length (numC (rndL c)) W
section
variable {D D' X : Nat → Prop} {c : Coh} {E : List Ent} {wv rv : Value} {W W' : World}
theorem DLk.but (h : DLk D c E wv rv W) (hb : But X W W') (hX : ∀ g, D g → ¬ X g) : DLk D c E wv rv W' := ⟨h.wts.but hb hX, h.rnd.but hb hX⟩
theorem DLk.below (h : DLk D c E wv rv W) (hb : Below W.heap.size W W') : DLk D c E wv rv W' := ⟨h.wts.below hb, h.rnd.below hb⟩
theorem DLk.mono (h : DLk D c E wv rv W) (hD : ∀ g, g < W.heap.size → D g → D' g) : DLk D' c E wv rv W := ⟨h.wts.mono hD, h.rnd.mono hD⟩
theorem dlk_z (D : Nat → Prop) (W : World) : DLk D zCoh [] (.slice none 0 0) (.slice none 0 0) W := ⟨sin_nil D W, sin_nil D W⟩
/-- Where its row of those who wait stands, and who. -/
theorem DLk.ent (h : DLk D c E wv rv W) : ∃ A cap, wv = .slice A E.length cap ∧ E.length ≤ cap ∧ (A = none → cap = 0) ∧ ∀ i e, E[i]? = some e → ∃ g, A = some ⟨g, 0, none⟩ ∧ g < W.heap.size ∧ W.cell? ⟨g, i * 2, none⟩ = some (.int .i64 e.tsk) ∧ W.cell? ⟨g, i * 2 + 1, none⟩ = some (.int .i64 e.soc) := by
  obtain ⟨A, cap, a, b, d, e, f⟩ := h.wts
  refine ⟨A, cap, a, b, d, fun i x hx => ?_⟩
  cases A with
  | none =>
    have hi := (List.getElem?_eq_some_iff.1 hx).1
    have := d rfl; omega
  | some ad =>
    obtain ⟨g, rfl, _, hlt⟩ := e _ rfl
    exact ⟨g, rfl, hlt, f g rfl _ _ (entC_at hx).1, f g rfl _ _ (entC_at hx).2⟩
theorem SIn.num {L : List Int} {v : Value} (h : SIn D v L.length (numC L) W) : ∃ A cap, v = .slice A L.length cap ∧ L.length ≤ cap ∧ (A = none → cap = 0) ∧ ∀ i x, L[i]? = some x → ∃ g, A = some ⟨g, 0, none⟩ ∧ g < W.heap.size ∧ W.cell? ⟨g, i, none⟩ = some (.int .i64 x) := by
  obtain ⟨A, cap, a, b, d, e, f⟩ := h
  refine ⟨A, cap, a, b, d, fun i x hx => ?_⟩
  cases A with
  | none =>
    have hi := (List.getElem?_eq_some_iff.1 hx).1
    have := d rfl; omega
  | some ad =>
    obtain ⟨g, rfl, _, hlt⟩ := e _ rfl
    exact ⟨g, rfl, hlt, f g rfl _ _ (by unfold numC; rw [List.getElem?_map, hx]; rfl)⟩
end
/-- A row that may be read appended to an own one. -/
theorem app_sin {ops : Array Oper} {rest : List Oper} {o : Oper} {a : Act} {W : World} {Q : Exit → Act → World → Prop} (hgd : o.guard = none) (s x : Operand) (T T1 : TypeId) (ho : o.op = .call { callee := .builtin .append, args := #[s, x], argTypes := #[T, T] })
    (hT : Try.prog.underlying T = some (.slice T1)) (i0 : TypeInfo) (z : Value) (size bytes : Nat) (hi0 : Try.prog.info? T1 = some i0) (hz0 : i0.zero = some z) (hz1 : i0.size = size) (hz2 : i0.bytes = bytes) (hzs : z.cells.size = size) (hsz : 0 < size) (hby : bytes ≤ 100)
    (D : Nat → Prop) (B : Nat) (v : Value) (n : Nat) (cs : List Value) (hs : a.eval s = v) (hown : W.ownsRow B T1 size v n cs) (v2 : Value) (m : Nat) (ds : List Value) (hx : a.eval x = v2) (hin : SIn D v2 m ds W) (hl : ds.length = m * size) (h1 : ∀ u ∈ ds, u.oneCell' = true) (hn : n ≤ 100000) (hm : m ≤ 100000) (hB : B ≤ W.heap.size)
    (h : ∀ v' w', w'.ownsRow B T1 size v' (n + m) (cs ++ ds) → Below B W w' → wpList Try.prog ops Q rest (a.put o.dst v') w') : wpList Try.prog ops Q (o :: rest) a W := by
  obtain ⟨A, cap, rfl, hcap, hno, had, hc⟩ := hin
  cases A with
  | none =>
    obtain rfl : cap = 0 := hno rfl
    obtain rfl : m = 0 := by omega
    have hds : ds = [] := List.eq_nil_of_length_eq_zero (by rw [hl]; omega)
    subst hds
    refine wpList_append_own_none hgd s x T ho B T1 i0 size hT hi0 v n cs hs hown hx (h v W (by simpa using hown) (Below.refl _ _))
  | some ad =>
    obtain ⟨g, rfl, _, _⟩ := had _ rfl
    refine wpList_append_own W hgd s x T ho B T1 i0 z size bytes hT hi0 hz0 hz1 hz2 hzs hsz v n cs hs hown ⟨g, 0, none⟩ m cap ds hx hl ?_ h1 (by unfold maxLen; omega) ?_ hB ?_
    · intro j u hu
      have hadd : (⟨g, 0, none⟩ : Addr).add j = ⟨g, j, none⟩ := by unfold Addr.add; split <;> simp_all
      rw [hadd]; exact hc g rfl j u hu
    · have : (n + m) * bytes ≤ (n + m) * 100 := Nat.mul_le_mul_left _ hby
      omega
    · intro v' w' own gr _
      exact h v' w' own ((Below.refl _ _).grown gr hB fun k hk => (hown.lt k hk).1)
end Go.Proofs.Ytdomgipbadimmaa
