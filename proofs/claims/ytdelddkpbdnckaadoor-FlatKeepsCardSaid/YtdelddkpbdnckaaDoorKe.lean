/- A register turned; a lock handed on (layer 19). -/
import Derived.Test.YtdelddkpbdnckaaDoorKc
import Derived.Test.YtdelddkpbdnckaaDoorG4
namespace Go.Proofs.YtdelddkpbdnckaaDoor
open Go.RowKit
set_option maxRecDepth 100000

theorem in32_wrap {n : Int} (h : In32 n) : wrap32 n = n := by unfold wrap32; unfold In32 at h; omega
theorem in32_not {n : Int} (h : ¬ In32 n) : (wrap64 (wrap32 n) != n) = true := by
  have : wrap64 (wrap32 n) ≠ n := fun e => h (by unfold wrap64 wrap32 at e; unfold In32; omega)
  simpa using this
theorem setReg_no (r n : Int) (g a : Nat) (w : World) (h : ¬ (0 ≤ r ∧ r < 4 ∧ In32 n)) :
    Calls Tryd.prog 57 #[.pointer (some ⟨g, a, none⟩), .int .i64 r, .int .i64 n] w fun e w' => e = .returned (.bool false) ∧ w = w' := by
  by_cases h0 : r < 0
  · have t0 : decide (r < 0) = true := by simpa using h0
    go_enter Tryd.func57, Tryd.ntmps57
    go_wp2_with fail
    go_ret
    exact ⟨rfl, rfl⟩
  · have t0 : decide (r < 0) = false := by simpa using h0
    by_cases h1 : 4 ≤ r
    · have t1 : decide (4 ≤ r) = true := by simpa using h1
      go_enter Tryd.func57, Tryd.ntmps57
      go_wp2_with fail
      go_ret
      exact ⟨rfl, rfl⟩
    · have t1 : decide (4 ≤ r) = false := by simpa using h1
      have t2 := in32_not (fun q => h ⟨by omega, by omega, q⟩ : ¬ In32 n)
      go_enter Tryd.func57, Tryd.ntmps57
      go_wp2_with fail
      go_ret
      exact ⟨rfl, rfl⟩
theorem setReg_yes (r : Nat) (n : Int) (g a : Nat) (w : World) (hr : r < 4) (hn : In32 n) (u : Value) (hc : w.cell? ⟨g, a + 2 + r, none⟩ = some u) (hf : w.frozen? ⟨g, a + 2 + r, none⟩ = false) :
    Calls Tryd.prog 57 #[.pointer (some ⟨g, a, none⟩), .int .i64 r, .int .i64 n] w fun e w' => e = .returned (.bool true) ∧ w' = w.setCell ⟨g, a + 2 + r, none⟩ (.int .i32 n) := by
  have hw := in32_wrap hn
  have hw64 : wrap64 n = n := by unfold wrap64; unfold In32 at hn; omega
  have t0 : decide ((r : Int) < 0) = false := by simp
  have t1 : decide ((4 : Int) ≤ (r : Int)) = false := by simp; omega
  have t2 : (n != n) = false := by simp
  have k0 : (0 : Int) ≤ (r : Int) := by omega
  have k1 : (r : Int) < 4 := by omega
  have k2 : (r : Int) < ((4 : Nat) : Int) := by omega
  go_enter Tryd.func57, Tryd.ntmps57
  go_wp2_with fail
  go_ret
  exact ⟨rfl, rfl⟩
def PassG (l : List Int) (O : Value) (new : Int) (R : Option (List Int)) (w : World) (e : Ending) (w' : World) : Prop :=
  (R = none ∧ e = .returned (.bool false) ∧ w' = w) ∨ ∃ (k g cap : Nat), R = some (l.set k new) ∧ e = .returned (.bool true) ∧ O = .slice (some ⟨g, 0, none⟩) l.length cap ∧ k < l.length ∧ w' = w.setCell ⟨g, k, none⟩ (.int .i64 new)
set_option maxHeartbeats 1000000 in
theorem pass_any {w : World} {B : Nat} {O : Value} (l : List Int) (i old new : Int) (h : w.ownsRow B 3 1 O l.length (numC l)) :
    Calls Tryd.prog 41 #[O, .int .i64 i, .int .i64 old, .int .i64 new] w (PassG l O new (passP l i old new) w) := by
  by_cases h0 : 0 ≤ i ∧ i < (l.length : Int)
  · obtain ⟨k, rfl⟩ := Int.eq_ofNat_of_zero_le h0.1
    have hk : k < l.length := by omega
    obtain ⟨x, hx⟩ : ∃ x, l[k]? = some x := ⟨_, List.getElem?_eq_getElem hk⟩
    rcases rowForm h with ⟨-, e⟩ | ⟨g, cap, rfl⟩
    · omega
    · have c := h.cellAt k (by omega)
      rw [show (numC l)[k]? = some (.int .i64 x) by simp [numC, hx]] at c
      have f := h.frozenAt k
      have t0 : decide ((k : Int) < 0) = false := by simp
      have t1 : decide ((l.length : Int) ≤ (k : Int)) = false := by simp; omega
      have k0 : (0 : Int) ≤ (k : Int) := by omega
      have k1 : (k : Int) < (l.length : Int) := by omega
      have HX := Lib.hid hx
      clear h hx h0
      obtain ⟨R, hR⟩ : ∃ R, passP l (k : Int) old new = R := ⟨_, rfl⟩
      rw [hR]
      unfold passP at hR
      rw [show ((k : Int)).toNat = k by omega, HX.out] at hR
      generalize hN : l.length = N at *
      by_cases hxo : x = old
      · subst hxo
        rw [if_pos ⟨k0, rfl⟩] at hR
        have t2 : (x != x) = false := by simp
        have HR := Lib.hid hR
        clear hR
        go_enter Tryd.func41, Tryd.ntmps41
        go_wp2_with fail
        go_ret
        exact .inr ⟨k, g, cap, HR.out.symm, rfl, by rw [hN], by rw [hN]; exact hk, rfl⟩
      · rw [if_neg (fun q => hxo (Option.some.inj q.2))] at hR
        have t2 : (x != old) = true := by simpa using hxo
        have HR := Lib.hid hR
        clear hR
        go_enter Tryd.func41, Tryd.ntmps41
        go_wp2_with fail
        go_ret
        exact .inl ⟨HR.out.symm, rfl, rfl⟩
  · have hR : passP l i old new = none := by
      unfold passP; rw [if_neg]; rintro ⟨a, b⟩
      have := (List.getElem?_eq_some_iff.1 b).1; omega
    rw [hR]
    obtain ⟨A, cap, rfl⟩ : ∃ A cap, O = .slice A l.length cap := by
      rcases rowForm h with ⟨e, q⟩ | ⟨g, cap, e⟩
      · exact ⟨none, 0, by rw [e, q]⟩
      · exact ⟨_, cap, e⟩
    clear h hR
    generalize l.length = N at *
    by_cases h1 : i < 0
    · have t0 : decide (i < 0) = true := by simpa using h1
      go_enter Tryd.func41, Tryd.ntmps41
      go_wp2_with fail
      go_ret
      exact .inl ⟨rfl, rfl, rfl⟩
    · have t0 : decide (i < 0) = false := by simpa using h1
      have t1 : decide ((N : Int) ≤ i) = true := by simp; omega
      go_enter Tryd.func41, Tryd.ntmps41
      go_wp2_with fail
      go_ret
      exact .inl ⟨rfl, rfl, rfl⟩

set_option maxRecDepth 100000

section
variable {w : World} {B g cap : Nat} {O : Value} {ts : List FT} {ow : List Int} {i : Nat} {x : FT}
theorem OwnF.turn2 (h : OwnF w B (.slice (some ⟨g, 0, none⟩) ts.length cap) O ts ow) (hx : ts[i]? = some x) (y z : FT) (j k : Nat) (u v : Value) (hj : j < 8) (hk : k < 8) (hy : (taskC x).set j u = taskC y) (hz : (taskC y).set k v = taskC z) :
    OwnF ((w.setCell ⟨g, i * 8 + j, none⟩ u).setCell ⟨g, i * 8 + k, none⟩ v) B (.slice (some ⟨g, 0, none⟩) ts.length cap) O (ts.set i z) ow ∧ But (fun k => k = g) w ((w.setCell ⟨g, i * 8 + j, none⟩ u).setCell ⟨g, i * 8 + k, none⟩ v) := by
  have hil := (List.getElem?_eq_some_iff.1 hx).1
  have h1 := h.turn hx j u hj hy
  have hl : (ts.set i y).length = ts.length := by simp
  rw [← hl] at h1
  have h2 := h1.turn (i := i) (x := y) (y := z) (by simp [hil]) k v hk hz
  rw [hl, List.set_set] at h2
  exact ⟨h2, ((But.refl (fun k => k = g) w).set _ _ (.inl rfl)).set _ _ (.inl rfl)⟩
theorem OwnF.drew {F : Value} {us : List FT} (h : OwnF w B F O us ow) : OwnF w.drew B F O us ow := ⟨h.tk, h.ow⟩
theorem goes_any (h : OwnF w B (.slice (some ⟨g, 0, none⟩) ts.length cap) O ts ow) (hx : ts[i]? = some x) (b : Bool) (s o : Int) (q : Nat) (hq : w.cell? ⟨q, 0, none⟩ = some (.pointer (some ⟨g, i * 8, none⟩))) :
    Calls Tryd.prog 53 #[.bool b, .int .i64 s, .int .i64 o, .pointer (some ⟨q, 0, none⟩)] w (TaskG w B g cap O ts ow i (if b = true then some { x with st := s, on := o } else none)) := by
  cases b with
  | false =>
    refine (goes_no s o q w).mono ?_
    rintro e w' ⟨rfl, rfl⟩
    exact ⟨rfl, .inl ⟨rfl, Below.refl _ _⟩⟩
  | true =>
    have hc := h.cells hx
    refine (goes_yes s o q g (i * 8) w hq _ _ (hc 6 _ rfl) (hc 7 _ rfl) (h.free _) (h.free _)).mono ?_
    rintro e w' ⟨rfl, rfl | rfl⟩
    · obtain ⟨k1, k2⟩ := h.turn2 hx { x with st := s } { x with st := s, on := o } 6 7 (.int .i64 s) (.int .i64 o) (by omega) (by omega) rfl rfl
      exact ⟨rfl, .inr ⟨_, rfl, k1.drew, k2.drew⟩⟩
    · obtain ⟨k1, k2⟩ := h.turn2 hx { x with on := o } { x with st := s, on := o } 7 6 (.int .i64 o) (.int .i64 s) (by omega) (by omega) rfl rfl
      exact ⟨rfl, .inr ⟨_, rfl, k1.drew, k2.drew⟩⟩
theorem OwnF.step (h : OwnF w B (.slice (some ⟨g, 0, none⟩) ts.length cap) O ts ow) (hx : ts[i]? = some x) (n : Int) (r : R4) :
    OwnF (((((w.setCell ⟨g, i * 8 + 1, none⟩ (.int .i64 n)).setCell ⟨g, i * 8 + 2, none⟩ (.int .i32 r.a)).setCell ⟨g, i * 8 + 3, none⟩ (.int .i32 r.b)).setCell ⟨g, i * 8 + 4, none⟩ (.int .i32 r.c)).setCell ⟨g, i * 8 + 5, none⟩ (.int .i32 r.d)) B (.slice (some ⟨g, 0, none⟩) ts.length cap) O (ts.set i { x with pc := n, r := r }) ow ∧
    But (fun k => k = g) w (((((w.setCell ⟨g, i * 8 + 1, none⟩ (.int .i64 n)).setCell ⟨g, i * 8 + 2, none⟩ (.int .i32 r.a)).setCell ⟨g, i * 8 + 3, none⟩ (.int .i32 r.b)).setCell ⟨g, i * 8 + 4, none⟩ (.int .i32 r.c)).setCell ⟨g, i * 8 + 5, none⟩ (.int .i32 r.d)) := by
  obtain ⟨k1, k2⟩ := h.turn2 hx { x with pc := n } { x with pc := n, r := ⟨r.a, x.r.b, x.r.c, x.r.d⟩ } 1 2 (.int .i64 n) (.int .i32 r.a) (by omega) (by omega) rfl rfl
  have hil := (List.getElem?_eq_some_iff.1 hx).1
  have hl : ∀ z : FT, (ts.set i z).length = ts.length := fun z => by simp
  rw [← hl { x with pc := n, r := ⟨r.a, x.r.b, x.r.c, x.r.d⟩ }] at k1
  obtain ⟨k3, k4⟩ := k1.turn2 (i := i) (x := { x with pc := n, r := ⟨r.a, x.r.b, x.r.c, x.r.d⟩ }) (by simp [hil]) { x with pc := n, r := ⟨r.a, r.b, x.r.c, x.r.d⟩ } { x with pc := n, r := ⟨r.a, r.b, r.c, x.r.d⟩ } 3 4 (.int .i32 r.b) (.int .i32 r.c) (by omega) (by omega) rfl rfl
  rw [List.set_set, hl, ← hl { x with pc := n, r := ⟨r.a, r.b, r.c, x.r.d⟩ }] at k3
  have k5 := k3.turn (i := i) (x := { x with pc := n, r := ⟨r.a, r.b, r.c, x.r.d⟩ }) (y := { x with pc := n, r := r }) (by simp [hil]) 5 (.int .i32 r.d) (by omega) rfl
  rw [List.set_set, hl] at k5
  exact ⟨k5, (k2.trans k4).set _ _ (.inl rfl)⟩
theorem setReg_any (h : OwnF w B (.slice (some ⟨g, 0, none⟩) ts.length cap) O ts ow) (hx : ts[i]? = some x) (r n : Int) :
    Calls Tryd.prog 57 #[.pointer (some ⟨g, i * 8, none⟩), .int .i64 r, .int .i64 n] w (TaskG w B g cap O ts ow i (if 0 ≤ r ∧ r < 4 ∧ In32 n then some { x with r := x.r.put r.toNat n } else none)) := by
  by_cases hr : 0 ≤ r ∧ r < 4 ∧ In32 n
  · rw [if_pos hr]
    obtain ⟨k, rfl⟩ := Int.eq_ofNat_of_zero_le hr.1
    have hk : k < 4 := by omega
    have hc := h.cells hx
    have key : ∀ u, (taskC x)[2 + k]? = some u → (taskC x).set (2 + k) (.int .i32 n) = taskC { x with r := x.r.put k n } → Calls Tryd.prog 57 #[.pointer (some ⟨g, i * 8, none⟩), .int .i64 k, .int .i64 n] w (TaskG w B g cap O ts ow i (some { x with r := x.r.put k n })) := fun u hu hs => by
      refine (setReg_yes k n g (i * 8) w hk hr.2.2 u ?_ (h.free _)).mono ?_
      · have := hc (2 + k) u hu
        rw [Nat.add_assoc]; exact this
      · rintro e w' ⟨rfl, rfl⟩
        rw [Nat.add_assoc]
        exact ⟨rfl, .inr ⟨_, rfl, h.turn hx (2 + k) _ (by omega) hs, (But.refl (fun k => k = g) w).set _ _ (.inl rfl)⟩⟩
    rw [show ((k : Int)).toNat = k by omega]
    match k, hk with
    | 0, _ => exact key _ rfl rfl
    | 1, _ => exact key _ rfl rfl
    | 2, _ => exact key _ rfl rfl
    | 3, _ => exact key _ rfl rfl
  · rw [if_neg hr]
    refine (setReg_no r n g (i * 8) w hr).mono ?_
    rintro e w' ⟨rfl, rfl⟩
    exact ⟨rfl, .inl ⟨rfl, Below.refl _ _⟩⟩
end
end Go.Proofs.YtdelddkpbdnckaaDoor
