/- What CohortBudget keeps, plainly; its map (layer 14). -/
import Derived.Test.YtdomgipbadimmaaCq
import Derived.Test.YtdomgipbadimmaaC8
import Derived.Maps.OwnOps
import Derived.Maps.OwnSet
import Derived.Maps.Views
namespace Go.Proofs.Ytdomgipbadimmaa
open Go.RowKit
set_option maxRecDepth 100000

def updI (f : Int → Int) (t s : Int) : Int → Int := fun k => if k = t then s else f k
structure BInv (c : Coh) (f : Int → Int) (st : Int) : Prop where
  ok : CohOk c
  st : st = c.pas
  top : ∀ r ∈ c.rnd, ∀ x ∈ r.2, x ≤ 1000
  soc : ∀ r ∈ c.rnd, ∀ x ∈ r.2, f x = r.1
section
variable {c : Coh} {f : Int → Int} {st t s : Int}
theorem binv_z (f : Int → Int) : BInv zCoh f 0 := ⟨zCoh_ok, rfl, fun r h => by simp [zCoh] at h, fun r h => by simp [zCoh] at h⟩
theorem addR_soc {L : List CRow} {r : CRow} {x : Int} (h : r ∈ addR s t L) (hx : x ∈ r.2) : (x = t ∧ r.1 = s) ∨ ∃ q ∈ L, r.1 = q.1 ∧ x ∈ q.2 := by
  induction L with
  | nil => simp [addR] at h; subst h; simp at hx; exact .inl ⟨hx, rfl⟩
  | cons q l ih =>
    unfold addR at h
    by_cases e : q.1 = s
    · rw [if_pos e] at h
      rcases List.mem_cons.1 h with h | h
      · subst h
        simp only [List.mem_append, List.mem_singleton] at hx
        rcases hx with hx | hx
        · exact .inr ⟨q, by simp, rfl, hx⟩
        · exact .inl ⟨hx, e⟩
      · exact .inr ⟨r, by simp [h], rfl, hx⟩
    · rw [if_neg e] at h
      rcases List.mem_cons.1 h with h | h
      · subst h; exact .inr ⟨r, by simp, rfl, hx⟩
      · rcases ih h with a | ⟨y, a, b, d⟩
        · exact .inl a
        · exact .inr ⟨y, by simp [a], b, d⟩
theorem takeE_ok (he : (takeE c t s).2 = 0) : waitsC c t = false ∧ takeE c t s = (decide (c.own = -1), 0) := by
  unfold takeE at he ⊢
  by_cases h1 : t < 0 ∨ s < 0
  · rw [if_pos h1] at he; cases he
  · rw [if_neg h1] at he ⊢
    by_cases h2 : c.own = t
    · rw [if_pos h2] at he; cases he
    · rw [if_neg h2] at he ⊢
      by_cases h3 : waitsC c t = true
      · rw [if_pos h3] at he; cases he
      · rw [if_neg h3]; exact ⟨by simpa using h3, rfl⟩
theorem take_binv (h : BInv c f st) (ht : 0 ≤ t) (ht2 : t ≤ 1000) (he : (takeE c t s).2 = 0) : BInv (takeC c t s) (updI f t s) (if (takeE c t s).1 = true then 0 else st) := by
  obtain ⟨hw, e⟩ := takeE_ok he
  rw [e]
  refine ⟨take_ok h.ok ht, ?_, ?_, ?_⟩
  · unfold takeC
    by_cases q : c.own = -1
    · rw [if_pos q, if_pos (by simpa using q)]
      have := h.ok.non q
      show 0 = c.pas
      rw [this]; rfl
    · rw [if_neg q, if_neg (by simpa using q)]; exact h.st
  · unfold takeC
    by_cases q : c.own = -1
    · rw [if_pos q]; exact h.top
    · rw [if_neg q]
      intro r hr x hx
      rcases addR_soc hr hx with ⟨a, _⟩ | ⟨y, a, _, d⟩
      · omega
      · exact h.top y a x d
  · unfold takeC
    have hold : ∀ r ∈ c.rnd, ∀ x ∈ r.2, updI f t s x = r.1 := fun r hr x hx => by
      unfold updI
      rw [if_neg ?_]
      · exact h.soc r hr x hx
      · rintro rfl
        unfold waitsC at hw
        rw [List.any_eq_false] at hw
        exact hw r hr (by unfold withR; simpa using hx)
    by_cases q : c.own = -1
    · rw [if_pos q]; exact hold
    · rw [if_neg q]
      intro r hr x hx
      rcases addR_soc hr hx with ⟨a, b⟩ | ⟨y, a, b, d⟩
      · unfold updI; rw [if_pos a, b]
      · rw [b]; exact hold y a x d
/-- What holds of the rows holds of those that are left. -/
theorem cut_all {P : Int → Int → Prop} {L : List CRow} (h : ∀ r ∈ L, ∀ x ∈ r.2, P r.1 x) (i : Nat) : ∀ r ∈ cutR2 i L, ∀ x ∈ r.2, P r.1 x := fun r hr x hx => by
  rcases cutR2_mem hr with a | ⟨q, a, _, rfl⟩
  · exact h r a x hx
  · exact h q a x (List.mem_of_mem_tail hx)
theorem last_all {P : Int → Int → Prop} {L : List CRow} (h : ∀ r ∈ L, ∀ x ∈ r.2, P r.1 x) (s : Int) : ∀ r ∈ lastR s L, ∀ x ∈ r.2, P r.1 x := fun r hr x hx => h r ((lastR_perm s L).mem_iff.1 hr) x hx
theorem give_rows {P : Int → Int → Prop} (h : ∀ r ∈ c.rnd, ∀ x ∈ r.2, P r.1 x) : ∀ r ∈ (giveC c).rnd, ∀ x ∈ r.2, P r.1 x := by
  unfold giveC
  split
  · exact cut_all h _
  · split
    · exact last_all (cut_all h _) _
    · intro r hr; simp [zCoh] at hr
theorem head_in {r : CRow} (h : r.2 ≠ []) : (r.2[0]?).getD 0 ∈ r.2 := by
  cases e : r.2 with
  | nil => exact absurd e h
  | cons x l => simp
theorem give_binv (h : BInv c f st) (hg : goesC c = true) : f (giveC c).own = (giveC c).soc ∧ (0 ≤ (giveC c).own ∧ (giveC c).own ≤ 1000) ∧ ((giveC c).soc = c.soc → BInv (giveC c) f (st + 1) ∧ ((∃ x ∈ allR c.rnd, f x ≠ c.soc) → st + 1 ≤ 3)) ∧ ((giveC c).soc ≠ c.soc → BInv (giveC c) f 0) := by
  have hok := give_ok h.ok
  have htop := give_rows (P := fun _ x => x ≤ 1000) h.top
  have hsoc := give_rows (P := fun s x => f x = s) h.soc
  unfold giveC at hok htop hsoc ⊢
  by_cases h1 : 0 ≤ ownI c ∧ (c.pas < 3 ∨ othI c < 0)
  · rw [if_pos h1] at hok htop hsoc ⊢
    rcases idxR_split (ofR c.soc) c.rnd 0 with ⟨e, _⟩ | ⟨A, r, C, hL, e, hr, hA⟩
    · unfold ownI at h1; rw [e] at h1; omega
    · have hi : (ownI c).toNat = A.length := by unfold ownI; rw [e]; omega
      rw [hi] at hok htop hsoc ⊢
      have hrm : r ∈ c.rnd := by rw [hL]; simp
      have hrs : r.1 = c.soc := by unfold ofR at hr; simpa using hr
      have how : (tellC { c with pas := c.pas + 1 } A.length).own = (r.2[0]?).getD 0 := by show headR c.rnd _ = _; rw [hL]; exact headR_at
      have hin := head_in (h.ok.one r hrm)
      refine ⟨?_, ?_, fun _ => ⟨⟨hok, by rw [h.st]; rfl, htop, hsoc⟩, ?_⟩, fun q => absurd rfl q⟩
      · rw [how]; exact (h.soc r hrm _ hin).trans hrs
      · rw [how]; exact ⟨h.ok.tsk r hrm _ hin, h.top r hrm _ hin⟩
      · rintro ⟨x, hx, hne⟩
        rw [h.st]
        rcases h1.2 with q | q
        · omega
        · exfalso
          rcases idxR_split (notR c.soc) c.rnd 0 with ⟨_, hno⟩ | ⟨A', r', C', _, e', _⟩
          · unfold allR at hx
            rw [List.mem_flatten] at hx
            obtain ⟨l, hl, hxl⟩ := hx
            obtain ⟨y, hy, rfl⟩ := List.mem_map.1 hl
            have := hno y hy
            unfold notR at this
            have he : y.1 = c.soc := by simpa using this
            exact hne ((h.soc y hy x hxl).trans he)
          · unfold othI at q; rw [e'] at q; omega
  · rw [if_neg h1] at hok htop hsoc ⊢
    by_cases h2 : 0 ≤ othI c
    · rw [if_pos h2] at hok htop hsoc ⊢
      rcases idxR_split (notR c.soc) c.rnd 0 with ⟨e, _⟩ | ⟨A, r, C, hL, e, hr, hA⟩
      · unfold othI at h2; rw [e] at h2; omega
      · have hi : (othI c).toNat = A.length := by unfold othI; rw [e]; omega
        rw [hi] at hok htop hsoc ⊢
        have hrm : r ∈ c.rnd := by rw [hL]; simp
        have hrs : r.1 ≠ c.soc := by unfold notR at hr; simpa using hr
        have how : (leaveC c A.length).own = (r.2[0]?).getD 0 := by show headR c.rnd _ = _; rw [hL]; exact headR_at
        have hso : (leaveC c A.length).soc = r.1 := by show socR c.rnd _ = _; rw [hL]; exact socR_at
        have hin := head_in (h.ok.one r hrm)
        refine ⟨?_, ?_, fun q => absurd (hso.symm.trans q) hrs, fun _ => ⟨hok, rfl, htop, hsoc⟩⟩
        · rw [how, hso]; exact h.soc r hrm _ hin
        · rw [how]; exact ⟨h.ok.tsk r hrm _ hin, h.top r hrm _ hin⟩
    · exfalso
      unfold goesC at hg
      simp only [Bool.or_eq_true, decide_eq_true_eq] at hg
      omega
theorem give_none (hg : goesC c = false) : giveC c = zCoh := by
  unfold goesC at hg
  simp only [Bool.or_eq_false_iff, decide_eq_false_iff_not] at hg
  unfold giveC
  rw [if_neg (by omega), if_neg (by omega)]
end
/-- The law's map. -/
def SockM (b n : Nat) (f : Int → Int) (w : World) : Prop :=
  ∃ D : DataW Unit, w.ownsMap Try.prog 3 (plainElem Try.prog 3) b n D ∧ ∀ k, (Lit.int .i64 k).wf = true → D.atKey (.int .i64 k) (.lit (.int .i64 0)) = .lit (.int .i64 (f k))
theorem keyInt : Go.Maps.Keyed Try.prog 3 := Go.Maps.int_keyed Try.underlying3
theorem zeroInt (w : World) : (zeroValue 3).run Try.prog w = .ok (.int .i64 0) w := by kernel_rfl
section
variable {b n : Nat} {f : Int → Int} {w w' : World}
theorem sock_made (w : World) : SockM w.heap.size 0 (fun _ => 0) (w.alloc (.map #[] 0)) := ⟨.map [], World.ownsMap_made _ _ _ _, fun _ _ => rfl⟩
theorem SockM.lt (h : SockM b n f w) : b < w.heap.size := let ⟨_, h, _⟩ := h; h.lt
theorem SockM.but {X : Nat → Prop} (h : SockM b n f w) (hb : But X w w') (hX : ¬ X b) : SockM b n f w' := by
  have hlt := h.lt
  obtain ⟨D, ⟨es, clock, h1, h2⟩, h3⟩ := h
  exact ⟨D, ⟨es, clock, (hb.block b hlt hX).trans h1, h2⟩, h3⟩
theorem SockM.look (h : SockM b n f w) {k : Int} (hk : (Lit.int .i64 k).wf = true) : (Instr.lookup 48 (.map (some b)) (.int .i64 k) false).run Try.prog w = .ok (.int .i64 (f k)) w := by
  obtain ⟨D, h1, h2⟩ := h
  obtain ⟨c, hr, hc, -⟩ := h1.lookup_int keyInt Try.underlying48 Try.underlying3 (zeroInt w) (Go.Maps.keyOf_int_mk Try.underlying3 hk)
  rw [h2 k hk] at hc
  cases hc
  exact hr
theorem SockM.upd (h : SockM b n f w) (hn : n < maxLen) {t s : Int} (ht : (Lit.int .i64 t).wf = true) (hs : (Lit.int .i64 s).wf = true) :
    ∃ w', (Instr.mapUpdate 48 (.map (some b)) (.int .i64 t) (.int .i64 s)).run Try.prog w = .ok () w' ∧ SockM b (n + 1) (updI f t s) w' ∧ w.grownBy w' (some b) := by
  obtain ⟨D, h1, h2⟩ := h
  obtain ⟨w', hr, h3, h4⟩ := h1.update keyInt Try.underlying48 hn (Go.Maps.keyOf_int_mk Try.underlying3 ht) (plainElem_int Try.underlying3 hs)
  refine ⟨w', hr, ⟨_, h3, fun k hk => ?_⟩, h4⟩
  unfold updI
  by_cases e : k = t
  · subst e
    rw [if_pos rfl, Go.Maps.atKey_put_same (k := .int .i64 k) h1.isMap trivial]
  · rw [if_neg e, Go.Maps.atKey_put_other (by intro q; cases q; exact e rfl)]
    exact h2 k hk
end
theorem wf_small {k : Int} (h0 : 0 ≤ k) (h1 : k ≤ 1000) : (Lit.int .i64 k).wf = true := by
  simp only [Lit.wf, Bool.and_eq_true, decide_eq_true_eq]
  have a : IntKind.i64.min = -9223372036854775808 := rfl
  have b : IntKind.i64.max = 9223372036854775807 := rfl
  omega
end Go.Proofs.Ytdomgipbadimmaa
