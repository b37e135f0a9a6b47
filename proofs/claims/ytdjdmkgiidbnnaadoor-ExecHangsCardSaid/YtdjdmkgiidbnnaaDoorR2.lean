/- exec's Run of a program that may not be; of any one. -/
import Derived.Test.YtdjdmkgiidbnnaaDoorR1
namespace Go.Proofs.YtdjdmkgiidbnnaaDoor
open Go.RowKit

set_option maxRecDepth 100000 in
set_option maxHeartbeats 8000000 in
theorem run_bad (prio : Int) (A : Option Addr) (l : List I4) (cap : Nat) (r : R4) (fuel : Int) (w : World) (hT : Tabs w) (hI : InsIn w A l) (he : (progE prio l).1 ≠ 0) :
    Calls Tryd.prog 12 #[.agg #[.int .i64 prio, .slice A l.length cap], regV r, .int .i64 fuel] w (RunP (runF prio l (min fuel 65536).toNat 0 r []) w) := by
  have hF := Four.new w prio A l.length cap r
  have HM := may_any prio A l cap _ (hT.on hF.below) (hI.below hF.below)
  rw [show decide ((progE prio l).1 = 0) = false by simpa using he] at HM
  have HM := Lib.hid HM; have HF := Lib.hid hF; have HT := Lib.hid hT; have HE := Lib.hid he
  obtain ⟨p0, p1, q0, q1, q2, q3, -⟩ := hF.cells
  clear hF hT hI he
  obtain ⟨M, hM⟩ : ∃ M, min fuel 65536 = M := ⟨_, rfl⟩
  have hM2 : M ≤ 65536 := by omega
  rw [hM]
  obtain ⟨R, hRR⟩ : ∃ R, runF prio l M.toNat 0 r [] = R := ⟨_, rfl⟩
  rw [hRR]
  have HRR := Lib.hid hRR; clear hRR
  obtain ⟨N, hN⟩ : ∃ N, l.length = N := ⟨_, rfl⟩
  have HN := Lib.hid hN
  rw [hN] at HM HF p1 ⊢
  clear hN
  go_enter Tryd.func12, Tryd.ntmps12
  go_upto_region 2 with (go_at_call 21; (with_reducible refine HM.out.mono ?_); rintro e w2 ⟨rfl, h2⟩; have HF2 := Lib.hid (HF.out.on h2); clear h2 p0 p1 q0 q1 q2 q3)
  have HX2 : Hid (RunI w w2 prio A N cap r (.slice none 0 0) []) := ⟨HT.out.on HF2.out.below, HF2.out, mine_nil _ _⟩
  clear HF2 HM HF
  go_cut [17, 18] (fun m i wx => m = .int .i64 M ∧ i = .int .i64 0 ∧ wx = w2)
  case first =>
    by_cases hfu : fuel ≤ 65536
    · obtain rfl : fuel = M := by omega
      clear hM
      go_wp2_with fail
      go_meet
      exact ⟨rfl, rfl, rfl⟩
    · obtain rfl : M = 65536 := by omega
      have hfu : 65536 < fuel := by omega
      clear hM
      go_wp2_with fail
      go_meet
      exact ⟨rfl, rfl, rfl⟩
  case rest =>
  obtain ⟨rfl, rfl, rfl⟩ := hcut
  clear hM
  go_wp2_with fail
  go_loopw [10, 11, 18] (fun pcv tv iv wr => pcv = .int .i64 0 ∧ tv = .slice none 0 0 ∧ iv = .int .i64 0 ∧ RunI w wr prio A N cap r (.slice none 0 0) []) (fun _ _ iv _ => M.toNat - (intOf iv).toNat)
  case atStart => exact ⟨rfl, rfl, rfl, HX2.out⟩
  case round =>
    obtain ⟨rfl, rfl, rfl, hX⟩ := hrel
    clear HX2
    have HX := Lib.hid hX; clear hX
    obtain ⟨⟨q0', q1', q2', q3'⟩, ⟨z0, z1, z2, z3⟩, ⟨f0, f1, f2⟩, uz, uf⟩ := HX.out.cells
    have hlt := HX.out.four.f.lt
    have r0 := HX.out.tabs.r0; have r1 := HX.out.tabs.r1; have r2 := HX.out.tabs.r2; have rs := HX.out.tabs.size.2
    have rs2 := HT.out.size.2
    by_cases hlt : (0 : Int) < M
    · have hR : R = ⟨0, r, [], Eff.refused⟩ := by
        rw [← HRR.out]
        obtain ⟨m, hm⟩ : ∃ m, M.toNat = m + 1 := ⟨M.toNat - 1, by omega⟩
        rw [hm, runF, stepF_bad HE.out]
        simp [Eff.refused]
      have HR' := Lib.hid hR; clear hR
      go_wp2_with fail
      go_region
      all_goals go_wp2
      all_goals refine bodyPost_ret (v := .tuple #[.int .i64 0, .agg #[.int .i32 r.a, .int .i32 r.b, .int .i32 r.c, .int .i32 r.d], .slice none 0 0, .agg #[.int .i64 14, .int .i64 0, .int .i32 (-1)]]) (by simp [results, Tryd.results12, go_sem, *]) rfl ?_
      all_goals
        obtain rfl := HR'.out
        have hd := HX.out.done' r Eff.refused
        exact ⟨.slice none 0 0, hd.1, rfl, hd.2⟩
    · have hR : R = ⟨0, r, [], Eff.zero⟩ := by
        rw [← HRR.out, show M.toNat = 0 by omega]; rfl
      have HR' := Lib.hid hR; clear hR
      have hlt' : decide ((0 : Int) < M) = false := by simpa using hlt
      clear hlt
      go_wp2_with fail
      go_region
      all_goals go_wp2
      all_goals refine bodyPost_ret (v := .tuple #[.int .i64 0, .agg #[.int .i32 r.a, .int .i32 r.b, .int .i32 r.c, .int .i32 r.d], .slice none 0 0, .agg #[.int .i64 0, .int .i64 0, .int .i32 0]]) (by simp [results, Tryd.results12, go_sem, *]) rfl ?_
      all_goals
        obtain rfl := HR'.out
        have hd := HX.out.done' r Eff.zero
        exact ⟨.slice none 0 0, hd.1, rfl, hd.2⟩
theorem run_any (prio : Int) (A : Option Addr) (l : List I4) (cap : Nat) (r : R4) (fuel : Int) (w : World) (hT : Tabs w) (hI : InsIn w A l) (hr : r.Ok) :
    Calls Tryd.prog 12 #[.agg #[.int .i64 prio, .slice A l.length cap], regV r, .int .i64 fuel] w (RunP (runF prio l (min fuel 65536).toNat 0 r []) w) := by
  by_cases he : (progE prio l).1 = 0
  · exact run_fine prio A l cap r fuel w hT hI (fine_of he) hr
  · exact run_bad prio A l cap r fuel w hT hI he
end Go.Proofs.YtdjdmkgiidbnnaaDoor
