/- layer 31 (codec): the document's Int. -/
import Derived.Test.YtchhenpijbecaaaDoorCj
namespace Go.Proofs.YtchhenpijbecaaaDoor
open Go.RowKit
set_option maxRecDepth 100000

/-- append of one byte, told once. -/
theorem app_b0 {ops : Array Oper} {rest : List Oper} {o : Oper} {a : Act} {w : World} {Q : Exit → Act → World → Prop} (hgd : o.guard = none) (s x : Operand) (ho : o.op = .call { callee := .builtin .append, args := #[s, x], argTypes := #[22, 22] })
    (B : Nat) (v : Value) (l : List UInt8) (hs : a.eval s = v) (h : AppB B w v l) (g cap : Nat) (c : UInt8) (z : Int) (hz : z = (c.toNat : Int)) (hx : a.eval x = .slice (some ⟨g, 0, none⟩) 1 cap) (hc : w.cell? ⟨g, 0, none⟩ = some (.int .u8 z)) (hl : l.length ≤ 1000000) (hB : B ≤ w.heap.size)
    (K : ∀ v' w', OwB B w' v' (l ++ [c]) → Below B w w' → wpList Tryd.prog ops Q rest (a.put o.dst v') w') : wpList Tryd.prog ops Q (o :: rest) a w := by
  obtain ⟨i0, hi0, hz0, hz1, hz2⟩ := info_parts infoByte
  have hadd : ∀ (b off j : Nat), (⟨b, off, none⟩ : Addr).add j = ⟨b, off + j, none⟩ := fun b off j => by unfold Addr.add; split <;> simp_all
  have hnew : ∀ j u, [Value.int .u8 z][j]? = some u → w.cell? ((⟨g, 0, none⟩ : Addr).add j) = some u := fun j u hu => by
    match j, hu with
    | 0, hu => simp at hu; subst hu; exact hc
  have e1 : Lib.byteCells l ++ [.int .u8 z] = Lib.byteCells (l ++ [c]) := by rw [hz]; exact cells_app l [c]
  rcases h with h | ⟨A, e, h⟩
  · refine wpList_append_own w hgd s x 22 ho B 5 i0 (.int .u8 0) 1 1 Tryd.underlying22 hi0 hz0 hz1 hz2 rfl (by decide) v l.length _ hs h ⟨g, 0, none⟩ 1 cap [.int .u8 z] hx rfl hnew (by intro u hu; simp at hu; subst hu; rfl) (by unfold maxLen; omega) (by omega) hB ?_
    intro v' w' h1 h2 _
    rw [e1] at h1
    have hbut : But (fun k => v.ownBlock = some k) w w' := (But.refl _ _).grown h2 fun k hk => .inl hk
    refine K v' w' (by unfold OwB; rw [List.length_append]; exact h1) (hbut.below hB fun k _ hk => (h.lt k hk).1)
  · refine wpList_append_grows w hgd s x 22 ho 5 i0 (.int .u8 0) 1 1 Tryd.underlying22 hi0 hz0 hz1 hz2 rfl (by decide) A l.length l.length (Lib.byteCells l) (by rw [hs, e]) ?_ (by simp [Lib.byteCells]) ?_ ⟨g, 0, none⟩ 1 cap [.int .u8 z] hx rfl hnew (by intro u hu; simp at hu; subst hu; rfl) (by omega) (by unfold maxLen; omega) (by omega) ?_
    · intro hA
      rcases Nat.eq_zero_or_pos l.length with h0 | h0
      · exact ⟨h0, h0⟩
      · obtain ⟨b, off, e', _⟩ := h 0 h0; rw [hA] at e'; cases e'
    · intro b hb j u hu
      obtain ⟨hj, rfl⟩ := bcell_get hu
      obtain ⟨b', off, e', _, hcell⟩ := h j hj
      rw [hb] at e'; injection e' with e'; subst e'
      rw [hadd]; exact hcell
    · intro v' w' h1 h2
      rw [e1] at h1
      have hbut : But Nob w w' := (But.refl _ _).grown h2 fun k hk => by cases hk
      exact K v' w' (by unfold OwB; rw [List.length_append]; exact own_mono h1 hB) (hbut.below hB fun k _ hk => hk.elim)

set_option maxHeartbeats 4000000 in
theorem refInt_any (n : Int) (hn : B64 n) (w : World) : Calls Tryd.prog 10 #[.int .i64 n] w fun e w' => ∃ v, e = .returned v ∧ OwB w.heap.size w' v (intB n) ∧ Below w.heap.size w w' := by
  obtain ⟨uu, hu⟩ : ∃ uu, foldN n = uu := ⟨_, rfl⟩
  have HU := Lib.hid (fold_lt hn)
  unfold intB
  rw [hu] at HU ⊢
  have HF := Lib.hid hu
  unfold B64 at hn
  clear hu
  go_enter Tryd.func10, Tryd.ntmps10
  go_upto_if 6 with fail
  go_cut [3] (fun u wx => u = .int .u64 uu ∧ w = wx)
  case first =>
    by_cases h0 : 0 ≤ n
    · have hq : n ≥ 0 := h0
      have e1 : (uu : Int) = n * 2 := by rw [← HF.out]; unfold foldN; rw [if_neg (by omega)]; omega
      go_wp2_with fail
      go_meet
      exact ⟨by rw [e1], rfl⟩
    · have hq : ¬ n ≥ 0 := h0
      obtain ⟨m, rfl⟩ : ∃ m : Nat, n = -(m : Int) - 1 := ⟨(-n - 1).toNat, by omega⟩
      have e1 : (uu : Int) = m * 2 + 1 := by rw [← HF.out]; unfold foldN; rw [if_pos (by omega)]; omega
      go_wp2_with fail
      go_meet
      exact ⟨by rw [e1], rfl⟩
  case rest =>
    obtain ⟨rfl, rfl⟩ := hcut
    go_wp2_with fail
    go_loopw [3, 4] (fun uv a wq => ∃ (u : Nat) (acc : List UInt8), uv = .int .u64 u ∧ u < 18446744073709551616 ∧ acc ++ vb u = vb uu ∧ OwB w.heap.size wq a acc ∧ Below w.heap.size w wq) (fun uv _ _ => (intOf uv).toNat)
    case atStart => exact ⟨uu, [], rfl, HU.out, rfl, World.ownsRow_nil _ _ _ _, Below.refl _ _⟩
    case round =>
      obtain ⟨u, acc, rfl, hu, hacc, ha, hb⟩ := hrel
      have HUU := Lib.hid hu; have HACC := Lib.hid hacc; have HA2 := Lib.hid ha; have HB2 := Lib.hid hb
      clear hu hacc ha hb
      have HAL := Lib.hid (show acc.length ≤ 1000000 by
        have h1 : acc.length + (vb u).length = (vb uu).length := by rw [← List.length_append, HACC.out]
        have := vb_len10 HU.out; omega)
      have HS2 := Lib.hid HB2.out.size
      by_cases h128 : 127 < u
      · have t1 : ((u : Int) > 127) := by omega
        have hw : IntKind.u64.wrap ((u : Int) / 128) = (u : Int) / 128 := wraps_u64 _ (by omega) (by have := HUU.out; omega)
        go_wp2_with (at_builtin; refine app_b0 rfl (.tmp 18) (.tmp 23) rfl w.heap.size _ acc rfl (.inl (HA2.out.alloc _)) wr.heap.size 1 (UInt8.ofNat (u % 128 + 128)) _ ?hz rfl (cell_new1 _ _ _) HAL.out (by have := HS2.out; simp; omega) ?_; (case hz => rw [u8_of (by omega)]; omega); intro v3 w3 o3 b3; have O3 := Lib.hid o3; have B3 := Lib.hid b3; clear o3 b3)
        go_roundw
        case rel =>
          refine ⟨u / 128, acc ++ [UInt8.ofNat (u % 128 + 128)], by go_num, by have := HUU.out; omega, ?_, O3.out, HB2.out.trans (((Below.refl _ _).alloc HS2.out _).trans B3.out)⟩
          rw [← HACC.out, vb_hi (u := u) (by omega)]; simp
        case measure => simp [intOf]; omega
      · have t1 : ¬ ((u : Int) > 127) := by omega
        have HV := Lib.hid (vb_lo (u := u) (by omega))
        go_wp2_with (at_builtin; refine app_b0 rfl (.tmp 27) (.tmp 30) rfl w.heap.size _ acc rfl (.inl (HA2.out.alloc _)) wr.heap.size 1 (UInt8.ofNat u) _ ?hz rfl (cell_new1 _ _ _) HAL.out (by have := HS2.out; simp; omega) ?_; (case hz => rw [u8_of (by omega)]); intro v3 w3 o3 b3; have O3 := Lib.hid o3; have B3 := Lib.hid b3; clear o3 b3)
        go_ret
        have o3 := O3.out
        rw [← HV.out, HACC.out] at o3
        exact ⟨_, rfl, o3, HB2.out.trans (((Below.refl _ _).alloc HS2.out _).trans B3.out)⟩
end Go.Proofs.YtchhenpijbecaaaDoor
