/- LoadNexts' walk (layer 15). -/
import Derived.Test.YtefmhfjjahloeaaLd
import Derived.Test.YtefmhfjjahloeaaLh
namespace Go.Proofs.Ytefmhfjjahloeaa
open Go.RowKit

set_option maxRecDepth 100000 in
set_option maxHeartbeats 4000000 in
theorem nexts15_any (a b : Int) (A : Option Addr) (n cap : Nat) (z : Nat → Int) (B : Option Addr) (m cap2 : Nat) (K : Nat → Int) (w : World) (hn : n ≤ cap) (hz : IntsIn w A n z) (hm : m ≤ cap2) (hK : IntsIn w B m K) :
    Calls Try.prog 3 #[.agg #[.int .i64 a, .int .i64 b], .slice A n cap, .slice B m cap2] w fun e w' => e = .returned (.bool true) ∧ Below w.heap.size w w' := by
  have hb : Below w.heap.size w (w.alloc (.cells #[.int .i64 a, .int .i64 b] 22)) := (Below.refl _ _).alloc (Nat.le_refl _) _
  have HB := Lib.hid hb
  have k0 := Blk.new w 22 #[.int .i64 a, .int .i64 b]
  have c0 := k0.cell 0; have c1 := k0.cell 1
  simp only [List.getElem?_toArray, List.getElem?_cons_zero, List.getElem?_cons_succ] at c0 c1
  obtain ⟨n', hn'⟩ : ∃ q, min n 60 = q := ⟨_, rfl⟩
  obtain ⟨m', hm'⟩ : ∃ q, min m 60 = q := ⟨_, rfl⟩
  obtain ⟨f, hf⟩ : ∃ f : Nat → Int, ∀ i, atI z n' (K i) = f i := ⟨_, fun _ => rfl⟩
  have hz1 : IntsIn (w.alloc (.cells #[.int .i64 a, .int .i64 b] 22)) A n' z := (hz.less (by omega)).below hb
  have hK1 : IntsIn (w.alloc (.cells #[.int .i64 a, .int .i64 b] 22)) B m' K := (hK.less (by omega)).below hb
  have HZ := Lib.hid hz1; have HK := Lib.hid hK1; have HF := Lib.hid hf
  have n1 : n' ≤ n := by omega
  have m1 : m' ≤ m := by omega
  have m2 : m' ≤ 60 := by omega
  have m3 : m' ≤ cap2 := by omega
  have e1 : min (n : Int) 60 = (n' : Int) := by omega
  have e2 : min (m : Int) 60 = (m' : Int) := by omega
  have q1 : (n ≤ 60 ∧ n' = n) ∨ (60 < n ∧ n' = 60) := by omega
  have q2 : (m ≤ 60 ∧ m' = m) ∨ (60 < m ∧ m' = 60) := by omega
  clear k0 hb hz hK hf hz1 hK1 hn' hm'
  go_enter Try.func3, Try.ntmps3
  go_upto_region 1 with fail
  generalize w.alloc (.cells #[.int .i64 a, .int .i64 b] 22) = w1 at *
  go_region
  clear c0 c1
  go_upto_region 2 with fail
  go_cut [1, 2] (fun s t wx => s = .slice A n' cap ∧ t = .slice B m' cap2 ∧ Below w1.heap.size w1 wx)
  case first =>
    have HD := Lib.hid ((Below.refl w1.heap.size w1).drew)
    have n0 : (0 : Int) ≤ (n : Int) := by omega
    have m0 : (0 : Int) ≤ (m : Int) := by omega
    have n3 : (n : Int) ≤ (cap : Int) := by omega
    have m4 : (m : Int) ≤ (cap2 : Int) := by omega
    clear e1 e2
    by_cases hn60 : n ≤ 60
    · obtain rfl : n = n' := by omega
      have t0 : ¬ (60 : Int) < (n : Int) := by omega
      have t1 : (n : Int) ≤ 60 := by omega
      by_cases hm60 : m ≤ 60
      · obtain rfl : m = m' := by omega
        clear q1 q2
        have s0 : ¬ (60 : Int) < (m : Int) := by omega
        have s1 : (m : Int) ≤ 60 := by omega
        go_region
        go_wp2_with fail
        go_meet
        exact ⟨rfl, rfl, HD.out.drew⟩
      · obtain rfl : m' = 60 := by omega
        clear q1 q2
        have s0 : (60 : Int) < (m : Int) := by omega
        have s2 : (60 : Int) ≤ (cap2 : Int) := by omega
        have s3 : 60 ≤ cap2 := by omega
        go_region
        go_wp2_with fail
        go_meet
        exact ⟨rfl, rfl, HD.out.drew⟩
    · obtain rfl : n' = 60 := by omega
      have t0 : (60 : Int) < (n : Int) := by omega
      have t2 : (60 : Int) ≤ (cap : Int) := by omega
      have t3 : 60 ≤ cap := by omega
      by_cases hm60 : m ≤ 60
      · obtain rfl : m = m' := by omega
        clear q1 q2
        have s0 : ¬ (60 : Int) < (m : Int) := by omega
        have s1 : (m : Int) ≤ 60 := by omega
        go_region
        go_wp2_with fail
        go_meet
        exact ⟨rfl, rfl, HD.out.drew⟩
      · obtain rfl : m' = 60 := by omega
        clear q1 q2
        have s0 : (60 : Int) < (m : Int) := by omega
        have s2 : (60 : Int) ≤ (cap2 : Int) := by omega
        have s3 : 60 ≤ cap2 := by omega
        go_region
        go_wp2_with fail
        go_meet
        exact ⟨rfl, rfl, HD.out.drew⟩
  case rest =>
    obtain ⟨rfl, rfl, h2⟩ := hcut
    clear e1 e2 q1 q2 n1 m1
    rename World => w2
    have PA := Lib.hid (skew_any z K f A B n' m' cap cap2 w2 HF.out (HZ.out.below h2) (HK.out.below h2) m2 m3)
    have HB2 := Lib.hid (HB.out.trans (h2.mono HB.out.size))
    have HZ2 := Lib.hid (HZ.out.below h2)
    have HK2 := Lib.hid (HK.out.below h2)
    clear h2 HZ HK HB
    have hQ : ∀ W, Below w2.heap.size w2 W → Calls Try.prog 9 #[.slice A n' cap, .slice B m' cap2] W (SkewP f K m' W) := fun W hW => rskew_any z K f A B n' m' cap cap2 W HF.out (HZ2.out.below hW) (HK2.out.below hW) m2
    have HQ := Lib.hid hQ
    clear hQ
    obtain ⟨s1, hs1⟩ : ∃ q, (skewR f K m').1 = q := ⟨_, rfl⟩
    obtain ⟨s2, hs2⟩ : ∃ q, (skewR f K m').2.1 = q := ⟨_, rfl⟩
    obtain ⟨s3, hs3⟩ : ∃ q, (skewR f K m').2.2 = q := ⟨_, rfl⟩
    have H1 := Lib.hid hs1; have H2 := Lib.hid hs2; have H3 := Lib.hid hs3
    clear hs1 hs2 hs3
    go_wp2_with fail
    refine PA.out.mono ?_
    rintro e w3 ⟨he, h3⟩
    rw [H1.out, H2.out, H3.out] at he
    subst he
    dsimp only
    have PB := Lib.hid (HQ.out w3 h3)
    have HB3 := Lib.hid (HB2.out.trans (h3.mono HB2.out.size))
    clear h3 PA HQ HB2
    go_wp2_with fail
    refine PB.out.mono ?_
    rintro e w4 ⟨he, h4⟩
    rw [H1.out, H2.out, H3.out] at he
    subst he
    dsimp only
    have HB4 := Lib.hid (HB3.out.trans (h4.mono HB3.out.size))
    clear h4 PB HB3
    have t1 : (s1 == s1) = true := by simp
    have t2 : (s2 == s2) = true := by simp
    have t3 : (s3 == s3) = true := by simp
    obtain ⟨x, hx⟩ : ∃ q, nextN a b = q := ⟨_, rfl⟩
    have t4 : (x == x) = true := by simp
    have P1 := next_any a b w4
    have P2 := refnext_any a b w4
    rw [hx] at P1 P2
    have HP1 := Lib.hid P1; have HP2 := Lib.hid P2
    clear P1 P2 hx
    go_wp2_with fail
    refine HP1.out.mono ?_
    rintro e w' ⟨rfl, rfl⟩
    go_wp2_with fail
    refine HP2.out.mono ?_
    rintro e w' ⟨rfl, rfl⟩
    go_wp2_with fail
    refine (lives15_any _).mono ?_
    rintro e w' ⟨rfl, rfl⟩
    go_wp2_with fail
    go_ret
    exact ⟨rfl, HB4.out⟩
end Go.Proofs.Ytefmhfjjahloeaa
