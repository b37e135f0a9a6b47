/- Rows of links: Push. -/
import Derived.Test.YtdlncbndhljhfaaCs
import Derived.Deep.DeepCutAuto
namespace Go.Proofs.Ytdlncbndhljhfaa
open Go.RowKit

def Of1 (g : Nat) : Nat → Prop := fun k => k = g
section
variable {b gl gn cl cn n m : Nat} {R Ah Be L : Nat → Int} {w : World}
set_option maxRecDepth 100000 in
set_option maxHeartbeats 4000000 in
theorem push_raw (k x a : Nat) (h : ChV b gl gn cl cn n m R Ah Be L w) (hk : k < m) (hx : x < n) (hR : R x = -1) (ha : Ah (n + k) = a) (han : a < n + m) (hL : L k = 0 ∨ 0 ≤ L k ∧ L k ≤ 4096) :
    Calls Try.prog 51 #[.pointer (some ⟨b, 0, none⟩), .int .i64 k, .int .i64 x] w fun e w' => e = .returned (.int .i64 0) ∧ ChV b gl gn cl cn n m (updI R x k) (updI (updI Ah x a) (n + k) x) (updI (updI Be x (n + k : Nat)) a x) (updI L k (L k + 1)) w' ∧ But (Own3 b gl gn) w w' := by
  have hn := h.hn; have hm := h.hm; have hcl := h.hcl; have hcn := h.hcn
  obtain ⟨o, ho⟩ : ∃ o, o = n + k := ⟨_, rfl⟩
  have hil := isList_any (k : Int) h
  have hin := isNode_any (x : Int) h
  rw [inB_yes hk] at hil; rw [inB_yes hx] at hin
  have how := own_at (b := b) (n := n) (w := w) k (by omega) hn h.cells.2.1
  rw [← ho] at how ha
  have c0 := h.cells.1
  have k0 := (h.lks.cell (i := x) (by omega)).1
  have k1 := (h.lks.cell (i := o) (by omega)).2.1
  rw [hR] at k0; rw [ha] at k1
  have o1 : o < n + m := by omega
  have oI0 : (0 : Int) ≤ (o : Int) := by omega
  have oI1 : (o : Int) < (n : Int) + (m : Int) := by omega
  have xI0 : (0 : Int) ≤ (x : Int) := by omega
  have xI1 : (x : Int) < (n : Int) + (m : Int) := by omega
  have aI0 : (0 : Int) ≤ (a : Int) := by omega
  have aI1 : (a : Int) < (n : Int) + (m : Int) := by omega
  have kI0 : (0 : Int) ≤ (k : Int) := by omega
  have kI1 : (k : Int) < (m : Int) := by omega
  have HIL := Lib.hid hil; have HIN := Lib.hid hin; have HOW := Lib.hid how; have H := Lib.hid h; have HO := Lib.hid ho
  clear hil hin how h ho ha hR
  go_enter Try.func51, Try.ntmps51
  go_upto_region 7 with (first
    | (go_at_call 79; (with_reducible refine HIL.out.mono ?_); rintro e wq ⟨rfl, rfl⟩)
    | (go_at_call 80; (with_reducible refine HIN.out.mono ?_); rintro e wq ⟨rfl, rfl⟩)
    | (go_at_call 78; (with_reducible refine HOW.out.mono ?_); rintro e wq ⟨rfl, rfl⟩))
  go_cut [8] (fun t wx => t = .int .i64 a ∧ ChV b gl gn cl cn n m (updI R x k) (updI Ah x a) (updI Be x o) L wx ∧ But (Own3 b gl gn) w wx)
  case first =>
    obtain ⟨q0, q1, q2⟩ := H.out.lks.cell (i := x) (by omega)
    have f0 := H.out.lks.free (x * 3); have f1 := H.out.lks.free (x * 3 + 1); have f2 := H.out.lks.free (x * 3 + 2)
    clear k0 k1
    go_wp2_with fail
    go_meet
    refine ⟨rfl, ?_, (((But.refl _ _).set ⟨gl, x * 3, none⟩ _ (.inl (.inr (.inl rfl)))).set ⟨gl, x * 3 + 1, none⟩ _ (.inl (.inr (.inl rfl)))).set ⟨gl, x * 3 + 2, none⟩ _ (.inl (.inr (.inl rfl)))⟩
    have s1 := H.out.links (H.out.lks.setR (i := x) (by omega) k)
    have s2 := s1.links (s1.lks.setA (i := x) (by omega) a)
    exact s2.links (s2.lks.setB (i := x) (by omega) o)
  case rest =>
    obtain ⟨rfl, h1, hG1⟩ := hcut
    rename World => w1
    have c0 := h1.cells.1
    have H1 := Lib.hid h1; have HG1 := Lib.hid hG1; clear h1 hG1 k0 k1
    go_upto_region 8 with fail
    go_cut [8] (fun t wx => t = .int .i64 a ∧ ChV b gl gn cl cn n m (updI R x k) (updI Ah x a) (updI (updI Be x o) a x) L wx ∧ But (Own3 b gl gn) w wx)
    case first =>
      have q2 := (H1.out.lks.cell (i := a) (by omega)).2.2
      have f2 := H1.out.lks.free (a * 3 + 2)
      go_wp2_with fail
      go_meet
      exact ⟨rfl, H1.out.links (H1.out.lks.setB (i := a) (by omega) x), HG1.out.set ⟨gl, a * 3 + 2, none⟩ _ (.inl (.inr (.inl rfl)))⟩
    case rest =>
      obtain ⟨rfl, h2, hG2⟩ := hcut
      rename World => w2
      clear c0
      have c0 := h2.cells.1
      have H2 := Lib.hid h2; have HG2 := Lib.hid hG2; clear h2 hG2 H1 HG1
      go_upto_region 9 with fail
      go_cut [8] (fun t wx => t = .int .i64 a ∧ ChV b gl gn cl cn n m (updI R x k) (updI (updI Ah x a) o x) (updI (updI Be x o) a x) L wx ∧ But (Own3 b gl gn) w wx)
      case first =>
        have q2 := (H2.out.lks.cell (i := o) (by omega)).2.1
        have f2 := H2.out.lks.free (o * 3 + 1)
        go_wp2_with fail
        go_meet
        exact ⟨rfl, H2.out.links (H2.out.lks.setA (i := o) (by omega) x), HG2.out.set ⟨gl, o * 3 + 1, none⟩ _ (.inl (.inr (.inl rfl)))⟩
      case rest =>
        obtain ⟨rfl, h3, hG3⟩ := hcut
        rename World => w3
        clear c0
        have c2 := h3.cells.2.2
        obtain ⟨l0, l1⟩ := h3.len hk
        have hs : IntKind.i64.wrap (L k + 1) = L k + 1 := IntWalk.i64_in _ (by omega)
        have H3 := Lib.hid h3; have HG3 := Lib.hid hG3; clear h3 hG3 H2 HG2
        go_wp2_with fail
        go_ret
        rw [← HO.out]
        exact ⟨rfl, H3.out.setL hk _, HG3.out.set ⟨gn, k, none⟩ _ (.inl (.inr (.inr rfl)))⟩
set_option maxRecDepth 100000 in
set_option maxHeartbeats 2000000 in
theorem push_arg (k x : Int) (h : ChV b gl gn cl cn n m R Ah Be L w) (hq : inB k m = false ∨ inB x n = false) :
    Calls Try.prog 51 #[.pointer (some ⟨b, 0, none⟩), .int .i64 k, .int .i64 x] w fun e w' => e = .returned (.int .i64 1) ∧ w = w' := by
  have hil := isList_any k h
  have hin := isNode_any x h
  cases hk : inB k m with
  | false =>
    rw [hk] at hil
    have HIL := Lib.hid hil; clear hil hin h hq hk
    go_enter Try.func51, Try.ntmps51
    go_wp2_with (first
      | (go_at_call 79; (with_reducible refine HIL.out.mono ?_); rintro e wq ⟨rfl, rfl⟩))
    go_ret
    exact ⟨rfl, rfl⟩
  | true =>
    have hx : inB x n = false := hq.resolve_left (by rw [hk]; simp)
    rw [hk] at hil; rw [hx] at hin
    have HIL := Lib.hid hil; have HIN := Lib.hid hin; clear hil hin h hq hk hx
    go_enter Try.func51, Try.ntmps51
    go_wp2_with (first
      | (go_at_call 79; (with_reducible refine HIL.out.mono ?_); rintro e wq ⟨rfl, rfl⟩)
      | (go_at_call 80; (with_reducible refine HIN.out.mono ?_); rintro e wq ⟨rfl, rfl⟩))
    go_ret
    exact ⟨rfl, rfl⟩
set_option maxRecDepth 100000 in
set_option maxHeartbeats 2000000 in
theorem push_twice (k x : Nat) (h : ChV b gl gn cl cn n m R Ah Be L w) (hk : k < m) (hx : x < n) (hR : R x ≠ -1) :
    Calls Try.prog 51 #[.pointer (some ⟨b, 0, none⟩), .int .i64 k, .int .i64 x] w fun e w' => e = .returned (.int .i64 9) ∧ w = w' := by
  have hcl := h.hcl
  have hil := isList_any (k : Int) h
  have hin := isNode_any (x : Int) h
  rw [inB_yes hk] at hil; rw [inB_yes hx] at hin
  have c0 := h.cells.1
  have k0 := (h.lks.cell (i := x) (by omega)).1
  have xI0 : (0 : Int) ≤ (x : Int) := by omega
  have xI1 : (x : Int) < (n : Int) + (m : Int) := by omega
  have t : (R x != -1) = true := by simpa using hR
  have HIL := Lib.hid hil; have HIN := Lib.hid hin; clear hil hin h hR
  go_enter Try.func51, Try.ntmps51
  go_wp2_with (first
    | (go_at_call 79; (with_reducible refine HIL.out.mono ?_); rintro e wq ⟨rfl, rfl⟩)
    | (go_at_call 80; (with_reducible refine HIN.out.mono ?_); rintro e wq ⟨rfl, rfl⟩))
  go_ret
  exact ⟨rfl, rfl⟩
theorem push_nil (k x : Int) : Calls Try.prog 51 #[.pointer none, .int .i64 k, .int .i64 x] w fun e w' => e = .returned (.int .i64 1) ∧ w = w' := by
  have HIL := Lib.hid (isList_nil (w := w) k)
  go_enter Try.func51, Try.ntmps51
  go_wp2_with (first
    | (go_at_call 79; (with_reducible refine HIL.out.mono ?_); rintro e wq ⟨rfl, rfl⟩))
  go_ret
  exact ⟨rfl, rfl⟩
end
end Go.Proofs.Ytdlncbndhljhfaa
