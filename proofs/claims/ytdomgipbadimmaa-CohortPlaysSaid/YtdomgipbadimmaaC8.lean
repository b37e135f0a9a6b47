/- Locks, as the laws see them: Waiting (layer 14). -/
import Derived.Test.YtdomgipbadimmaaCr
import Derived.Test.YtdomgipbadimmaaCg
import Derived.Deep.OwnRows
import Derived.OwnWalk
namespace Go.Proofs.Ytdomgipbadimmaa
open Go.RowKit
set_option maxRecDepth 100000

/-- A row of numbers of the call's own, from block B on. -/
def MineN (B : Nat) (v : Value) (L : List Int) (W : World) : Prop := W.ownsRow B 3 1 v L.length (numC L)
theorem mineN_nil (B : Nat) (W : World) : MineN B (.slice none 0 0) [] W := ⟨rfl, .inl ⟨rfl, rfl⟩⟩
theorem MineN.on {B : Nat} {v : Value} {L : List Int} {w w' : World} (h : MineN B v L w) (hb : Below w.heap.size w w') : MineN B v L w' := by
  refine ⟨h.1, ?_⟩
  rcases h.2 with hn | ⟨g, cap, cur, rfl, hbb, hgg, rest⟩
  · exact .inl hn
  · exact .inr ⟨g, cap, cur, rfl, hbb, (hb.block g (Array.getElem?_eq_some_iff.1 hgg).1).trans hgg, rest⟩
/-- A whole row appended. -/
theorem app_whole {ops : Array Oper} {rest : List Oper} {o : Oper} {a : Act} {W : World} {Q : Exit → Act → World → Prop} (hgd : o.guard = none) (s x : Operand) (ho : o.op = .call { callee := .builtin .append, args := #[s, x], argTypes := #[55, 55] })
    (B : Nat) (v : Value) (L M : List Int) (hs : a.eval s = v) (hown : MineN B v L W) (u : Value) (hx : a.eval x = u) (hu : CutR 0 u M W) (hne : M ≠ []) (hl : L.length + M.length ≤ 1000000) (hB : B ≤ W.heap.size)
    (h : ∀ v' w', MineN B v' (L ++ M) w' → Below B W w' → wpList Try.prog ops Q rest (a.put o.dst v') w') : wpList Try.prog ops Q (o :: rest) a W := by
  obtain ⟨i0, hi0, hz0, hz1, hz2⟩ := info_parts infoInt
  rcases hu with ⟨-, e⟩ | ⟨b, off, cap, cs, rfl, hlc, -, hbk, hsz, hc⟩
  · exact absurd e hne
  refine wpList_append_own W hgd s x 55 ho B 3 i0 _ 1 8 Try.underlying55 hi0 hz0 hz1 hz2 rfl (by decide) _ L.length (numC L) hs hown ⟨b, off, none⟩ M.length cap (numC M) hx (by simp [numC]) ?_ (by intro u hu; simp only [numC, List.mem_map] at hu; obtain ⟨z, _, rfl⟩ := hu; rfl) (by unfold maxLen; omega) (by omega) hB ?_
  · intro j u hu
    have hadd : (⟨b, off, none⟩ : Addr).add j = ⟨b, off + j, none⟩ := by unfold Addr.add; split <;> simp_all
    rw [hadd, hbk.cell]
    unfold numC at hu
    rw [List.getElem?_map] at hu
    cases hm : M[j]? with
    | none => rw [hm] at hu; simp at hu
    | some z => rw [hm] at hu; simp only [Option.map_some, Option.some.injEq] at hu; rw [hc j z hm, hu]
  · intro v' w' own gr _
    refine h v' w' ?_ ((Below.refl _ _).grown gr hB (fun k hk => (hown.lt k hk).1))
    unfold MineN
    rw [List.length_append, show numC (L ++ M) = numC L ++ numC M by simp [numC]]
    exact own
/-- All who wait, row by row. -/
def allR (L : List CRow) : List Int := (L.map (·.2)).flatten
theorem allR_take {L : List CRow} {k : Nat} {r : CRow} (h : L[k]? = some r) : allR (L.take (k + 1)) = allR (L.take k) ++ r.2 := by
  unfold allR
  rw [List.take_add_one, h, List.map_append, List.flatten_append]; simp
theorem allR_len {L : List CRow} {m : Nat} (h : ∀ r ∈ L, r.2.length ≤ m) : (allR L).length ≤ m * L.length := by
  induction L with
  | nil => simp [allR]
  | cons r l ih =>
    have h1 := h r (by simp)
    have h2 := ih fun q hq => h q (by simp [hq])
    unfold allR at h2 ⊢
    simp only [List.map_cons, List.flatten_cons, List.length_append, List.length_cons]
    rw [Nat.mul_add, Nat.mul_one]; omega
section
variable {B : Nat → Prop} {pb lb : Nat} {lab : Nat → LabC} {ks : List Coh} {w : World} {i : Nat} {c : Coh}
set_option maxHeartbeats 2000000 in
theorem waitL_any (h : CohL B pb lb lab ks w) (hc : ks[i]? = some c) (hb : CohB c 900) : Calls Try.prog 20 #[.pointer (some ⟨pb, 0, none⟩), .int .i64 (i : Int)] w fun e w' => ∃ v, e = .returned v ∧ MineN w.heap.size v (allR c.rnd) w' ∧ Below w.heap.size w w' := by
  have hlt := (List.getElem?_eq_some_iff.1 hc).1
  obtain ⟨cs, rv, hl, -⟩ := h.lock hc
  have P := Lib.hid (has_any h (i : Int))
  rw [show decide ((0 : Int) ≤ (i : Int) ∧ (i : Int) < (ks.length : Int)) = true by simp; omega] at P
  have c0 := h.box.cell 0
  simp only [List.getElem?_toArray, List.getElem?_cons_zero] at c0
  obtain ⟨n, hn⟩ : ∃ n, ks.length = n := ⟨_, rfl⟩
  rw [hn] at c0
  have i0 : (0 : Int) ≤ (i : Int) := by omega
  have i1 : (i : Int) < (n : Int) := by omega
  have c1 := hl.cell.2.2.2
  rw [Nat.mul_comm 4 i] at c1
  obtain ⟨A, cap, hrv, -⟩ := hl.rnd.slice
  have HR := Lib.hid hl.rnd
  have HOK := Lib.hid (h.ok i c hc)
  obtain ⟨L, hL⟩ : ∃ L, c.rnd = L := ⟨_, rfl⟩
  have hlen : (allR L).length ≤ 810000 := by
    have := allR_len (L := L) (m := 900) (by rw [← hL]; exact hb.row)
    have h2 := hb.rnd
    rw [hL] at h2
    have := Nat.mul_le_mul_left 900 h2
    omega
  have HLEN := Lib.hid hlen
  have HNE : Hid (∀ r ∈ L, r.2 ≠ []) := by rw [← hL]; exact HOK.out.one
  rw [hL] at HR hrv ⊢
  subst hrv
  obtain ⟨m, hm⟩ : ∃ m, L.length = m := ⟨_, rfl⟩
  have HM := Lib.hid hm
  rw [hm] at c1
  have hm9 : m ≤ 900 := by have := hb.rnd; rw [hL] at this; omega
  clear hl h hc hn hb hlen hL hm HOK hlt
  go_enter Try.func20, Try.ntmps20
  go_wp2_with (go_at_call 43; (with_reducible refine P.out.mono ?_); rintro e w2 ⟨rfl, rfl⟩)
  clear P
  go_loopw [5, 21] (fun tv iv wr => ∃ (k : Nat) (v : Value), v = tv ∧ iv = .int .i64 k ∧ k ≤ m ∧ MineN w.heap.size tv (allR (L.take k)) wr ∧ Below w.heap.size w wr) (fun _ iv _ => m - (intOf iv).toNat)
  case atStart => exact ⟨0, _, rfl, rfl, Nat.zero_le _, mineN_nil _ _, Below.refl _ _⟩
  case round =>
    obtain ⟨k, v, rfl, rfl, hk, hown, hb⟩ := hrel
    by_cases hlt : k < m
    · have hn := HM.out
      obtain ⟨r, hr⟩ : ∃ r, L[k]? = some r := ⟨_, List.getElem?_eq_getElem (by omega)⟩
      obtain ⟨g, c, tv, hrv, d0, d1, htv, hg⟩ := HR.out.at_ hr
      simp only [Value.slice.injEq] at hrv
      obtain ⟨rfl, -, rfl⟩ := hrv
      obtain ⟨A', cap', rfl, -⟩ := htv.slice
      have hne := Lib.hid (HNE.out r (List.mem_of_getElem? hr))
      have hall : Hid (allR (L.take (k + 1)) = allR (L.take k) ++ r.2) := allR_take hr
      have hsz : Hid ((allR (L.take k)).length + r.2.length ≤ 1000000) := by
        have h1 : (allR (L.take (k + 1))).length ≤ (allR L).length := by
          have : allR L = allR (L.take (k + 1)) ++ allR (L.drop (k + 1)) := by
            unfold allR; rw [← List.flatten_append, ← List.map_append, List.take_append_drop]
          rw [this, List.length_append]; omega
        rw [hall.out, List.length_append] at h1
        have := HLEN.out
        show _ ≤ _
        omega
      have e0 := (hb.cell (p := ⟨g, k * 2, none⟩) hg).trans d0
      have e1 := (hb.cell (p := ⟨g, k * 2 + 1, none⟩) hg).trans d1
      have HB := Lib.hid hb; have HO := Lib.hid hown; have HT := Lib.hid htv
      have k0 : (0 : Int) ≤ (k : Int) := by omega
      have k1 : (k : Int) < (m : Int) := by omega
      have HLT := Lib.hid hlt
      clear d0 d1 htv hb hown hr hn
      go_wp2_with (at_builtin; refine haltC ?_)
      refine Lib.hid ?_
      have ha : Below wr.heap.size wr (wr.alloc (.cells #[.int .i64 r.1, .slice A' r.2.length cap'] 105)) := (Below.refl _ _).alloc (Nat.le_refl _) _
      refine app_whole rfl (.tmp 25) (.tmp 27) rfl w.heap.size v (allR (L.take k)) r.2 rfl (HO.out.on ha) _ rfl ((HT.out.but (But.of_below HB.out) (fun _ _ q => q)).but (But.of_below ha) (fun _ _ q => q)) hne.out hsz.out (HB.out.trans (ha.mono HB.out.size)).size ?_
      intro v' w9 own9 b9
      have HM9 : Hid (MineN w.heap.size v' (allR (L.take (k + 1))) w9) := by
        show MineN _ _ _ _
        rw [hall.out]; exact own9
      have HB9 := Lib.hid ((HB.out.trans (ha.mono HB.out.size)).trans b9)
      clear own9 b9 ha
      go_wp2_with fail
      go_roundw
      case rel => exact ⟨k + 1, v', rfl, by go_num, by have := HLT.out; omega, HM9.out, HB9.out⟩
      case measure => have := HLT.out; simp [intOf]; omega
    · have hkm : k = m := by omega
      have t : ¬ (k : Int) < (m : Int) := by omega
      have HB := Lib.hid hb; have HO := Lib.hid hown
      clear hb hown
      go_wp2_with fail
      go_ret
      subst hkm
      refine ⟨_, rfl, ?_, HB.out⟩
      have := HO.out
      rwa [List.take_of_length_le (by rw [HM.out]; exact Nat.le_refl _)] at this
end
end Go.Proofs.Ytdomgipbadimmaa
