/- One lock beside a law's map; Owner and Waiting at it (layer 14). -/
import Derived.Test.YtdomgipbadimmaaC3
import Derived.Test.YtdomgipbadimmaaC6
import Derived.Test.YtdomgipbadimmaaC7
import Derived.Test.YtdomgipbadimmaaC9
namespace Go.Proofs.Ytdomgipbadimmaa
open Go.RowKit
set_option maxRecDepth 100000

section
variable {B : Nat → Prop} {pb lb m mb : Nat} {lab : Nat → LabC} {ks : List Coh} {c c' : Coh} {w w' : World}
theorem CohL.far (h : CohL B pb lb lab ks w) (hb : But (fun x => x = mb) w w') (hm : ¬ B mb) : CohL B pb lb lab ks w' := by
  have hno : ∀ k, lab k ≠ .no → ¬ k = mb := fun k hk e => hm (e ▸ h.old k hk)
  obtain ⟨cs, a, b, d⟩ := h.blk
  exact ⟨h.box.but hb (hno _ (by rw [h.pwn]; intro e; cases e)), ⟨cs, a.but hb (hno _ (by rw [h.own]; intro e; cases e)), b, fun i c hc => let ⟨rv, x, y⟩ := d i c hc; ⟨rv, x, y.but hb (fun k hk => hno k (fun e => by rw [e] at hk; exact hk)) (fun _ _ => rfl)⟩⟩, h.own, h.pwn, h.pne, fun k q => h.fre k (Nat.le_trans hb.size q), h.old, h.ok⟩
theorem OneP.far (h : OneP B pb lb c m w) (hb : But (fun x => x = mb) w w') (hm : ¬ B mb) : OneP B pb lb c m w' := ⟨h.1.elim fun lab q => ⟨lab, q.far hb hm⟩, h.2⟩
theorem OneP.up (h : OneP B pb lb c m w) : OneP B pb lb c (m + 1) w := by
  obtain ⟨h1, hb⟩ := h
  exact ⟨h1, by have := hb.pas; omega, by have := hb.rnd; omega, fun r hr => by have := hb.row r hr; omega⟩
theorem ownerP (h : OneP B pb lb c m w) : Calls Try.prog 18 #[.pointer (some ⟨pb, 0, none⟩), .int .i64 0] w fun e w' => e = .returned (.tuple #[.int .i64 (if c.own = -1 then 0 else c.own), .bool (!(c.own == -1))]) ∧ w = w' := by
  obtain ⟨⟨lab, hl⟩, -⟩ := h
  exact ownerL_any (i := 0) hl rfl
theorem waitP (h : OneP B pb lb c m w) (hm : m ≤ 900) : Calls Try.prog 20 #[.pointer (some ⟨pb, 0, none⟩), .int .i64 0] w fun e w' => ∃ v, e = .returned v ∧ MineN w.heap.size v (allR c.rnd) w' ∧ Below w.heap.size w w' := by
  have hb9 := h.b9 hm
  obtain ⟨⟨lab, hl⟩, -⟩ := h
  exact waitL_any (i := 0) hl rfl hb9
theorem SockM.up {b n : Nat} {f : Int → Int} (h : SockM b n f w) : SockM b (n + 1) f w := let ⟨D, h1, h2⟩ := h; ⟨D, h1.mono (Nat.le_succ n), h2⟩
end
theorem takeE_bad {c : Coh} {t s : Int} (he : (takeE c t s).2 ≠ 0) : takeE c t s = (false, (takeE c t s).2) ∧ takeT c t s = c := by
  refine ⟨?_, by unfold takeT; rw [if_neg he]⟩
  unfold takeE at he ⊢
  by_cases h1 : t < 0 ∨ s < 0
  · rw [if_pos h1]
  · rw [if_neg h1] at he ⊢
    by_cases h2 : c.own = t
    · rw [if_pos h2]
    · rw [if_neg h2] at he ⊢
      by_cases h3 : waitsC c t = true
      · rw [if_pos h3]
      · rw [if_neg h3] at he; exact absurd rfl he
theorem MineN.nums {B : Nat} {v : Value} {L : List Int} {w : World} (h : MineN B v L w) : ∃ A cap, v = .slice A L.length cap ∧ ∀ i x, L[i]? = some x → ∃ g, A = some ⟨g, 0, none⟩ ∧ w.cell? ⟨g, i, none⟩ = some (.int .i64 x) := by
  have hc := h
  rcases h.2 with ⟨rfl, hn⟩ | ⟨g, cap, cur, rfl, hg, hh, hcap, _⟩
  · have : L = [] := by simpa [numC] using hn
    subst this
    exact ⟨none, 0, rfl, fun i x hx => by simp at hx⟩
  · refine ⟨some ⟨g, 0, none⟩, cap, rfl, fun i x hx => ⟨g, rfl, ?_⟩⟩
    have := hc.cells (g := g) rfl i (.int .i64 x) (by simp [numC, hx])
    have hadd : (⟨g, 0, none⟩ : Addr).add i = ⟨g, i, none⟩ := by unfold Addr.add; split <;> simp_all
    rw [hadd] at this
    exact this
/-- Does somebody of another socket wait? -/
def othB (f : Int → Int) (s : Int) (l : List Int) : Bool := l.any fun x => f x != s
theorem othB_succ {f : Int → Int} {s x : Int} {l : List Int} {j : Nat} (h : l[j]? = some x) : othB f s (l.take (j + 1)) = (othB f s (l.take j) || f x != s) := by
  unfold othB; rw [List.take_add_one, h, List.any_append]; simp
theorem othB_all {f : Int → Int} {s : Int} {l : List Int} (h : othB f s l = true) : ∃ x ∈ l, f x ≠ s := by
  unfold othB at h
  rw [List.any_eq_true] at h
  obtain ⟨x, hx, he⟩ := h
  exact ⟨x, hx, by simpa using he⟩
theorem allR_in {L : List CRow} {x : Int} (h : x ∈ allR L) : ∃ r ∈ L, x ∈ r.2 := by
  unfold allR at h
  rw [List.mem_flatten] at h
  obtain ⟨l, hl, hx⟩ := h
  obtain ⟨y, hy, rfl⟩ := List.mem_map.1 hl
  exact ⟨y, hy, hx⟩
theorem clampT (a : Int) : 0 ≤ max 0 (min a 1000) ∧ max 0 (min a 1000) ≤ 1000 := by omega
end Go.Proofs.Ytdomgipbadimmaa
