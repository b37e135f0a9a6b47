/- layer 33 (fair): an entry out of a number; Script. -/
import Derived.Test.YtogplndhciaoeaaHa
import Derived.Test.YtogplndhciaoeaaFg
namespace Go.Proofs.Ytogplndhciaoeaa
open Go.RowKit Go.Maps
set_option maxRecDepth 100000

theorem ret_entry {fn : Func} {R : Ending → World → Prop} {a : Act} {r : Tmp} {w : World} {x : En} (h : fn.results = #[.cell r 34]) (g : Nat) (hp : a.tmps.getD r undef = .pointer (some ⟨g, 0, none⟩)) (hg : Blk w g 34 (clE x).toArray) (hd : a.defers = [])
    (hR : R (.returned (.agg (clE x).toArray)) w) : bodyPost Try.prog fn R .ret a w :=
  bodyPost_ret (results_cell_row h _ _ g 34 _ (0, 0) _ hp hg Try.underlying34 rfl (by rw [infoE5]; rfl)) hd hR
/-- the entry of a number. -/
def entL (d : Int) (cpus : List Int) (progs : Int) : En :=
  if d % 8 = 1 then ⟨3, if 1 < progs then d / 8 % progs else 0, -1, -1, 0⟩
  else if d % 8 = 0 ∨ cpus.length = 0 then ⟨2, 0, 0, 0, 0⟩
  else ⟨1, cpus.getD ((d / 8).toNat % cpus.length) 0, 0, 0, d / 4294967296⟩
set_option maxHeartbeats 8000000 in
theorem entry_any (d : Int) (hd : U64 d) (A : Option Addr) (cpus : List Int) (c cap : Nat) (hc : cpus.length = c) (hcl : c ≤ 1000) (progs : Int) (hp : W64 progs) (w : World) (hR : RowN w.heap.size w A cpus) :
    Calls Try.prog 33 #[.int .u64 d, .slice A c cap, .int .i64 progs] w fun e w' => e = .returned (.agg (clE (entL d cpus progs)).toArray) ∧ Below w.heap.size w w' := by
  have HR := Lib.hid hR; have HC := Lib.hid hc; have HD := Lib.hid hd; have HP := Lib.hid hp
  have h8 : Int.tmod d 8 = d % 8 := Int.tmod_eq_emod_of_nonneg hd.1
  have q8 : Int.tdiv d 8 = d / 8 := Int.tdiv_eq_ediv_of_nonneg hd.1
  clear hR hc hd hp
  have hbk := Blk.new w 34 #[.int .i64 0, .int .i64 0, .int .i64 0, .int .i64 0, .int .u64 0]
  have hbw : Below w.heap.size w (w.alloc (.cells #[.int .i64 0, .int .i64 0, .int .i64 0, .int .i64 0, .int .u64 0] 34)) := (Below.refl _ _).alloc (Nat.le_refl _) _
  go_enter Try.func33, Try.ntmps33
  go_upto_region 1 with fail
  generalize w.alloc (.cells #[.int .i64 0, .int .i64 0, .int .i64 0, .int .i64 0, .int .u64 0] 34) = V at *
  have HRV := Lib.hid (HR.out.below hbw)
  have HBK := Lib.hid hbk; have HBW := Lib.hid hbw
  clear hbk hbw HR
  obtain ⟨g, hg⟩ : ∃ g, w.heap.size = g := ⟨_, rfl⟩
  have HG := Lib.hid hg
  rw [hg] at HBK HBW HRV ⊢
  clear hg
  have hd0 : 0 ≤ d / 8 ∧ d / 8 < 18446744073709551616 := div_U64 HD.out 8 (by omega)
  have hq : IntKind.u64.wrap (d / 8) = d / 8 := by rw [IntKind.wrap_u64]; omega
  by_cases m1 : d % 8 = 1
  · have m1' : (d % 8 == 1) = true := by rw [m1]; rfl
    by_cases hp1 : 1 < progs
    · have hpb : progs < 9223372036854775808 := by
        have := HP.out; unfold W64 Lit.wf at this
        have h1 : IntKind.i64.min = -9223372036854775808 := by decide
        have h2 : IntKind.i64.max = 9223372036854775807 := by decide
        simp [h1, h2] at this; omega
      have hpw : IntKind.u64.wrap progs = progs := by rw [IntKind.wrap_u64]; omega
      have hpm : Int.tmod (d / 8) progs = d / 8 % progs := Int.tmod_eq_emod_of_nonneg hd0.1
      have hpr := Int.emod_nonneg (d / 8) (show progs ≠ 0 by omega)
      have hpl := Int.emod_lt_of_pos (d / 8) (show 0 < progs by omega)
      have hwr : wrap64 (d / 8 % progs) = d / 8 % progs := by unfold wrap64; omega
      have HE : Hid (entL d cpus progs = ⟨3, d / 8 % progs, -1, -1, 0⟩) := by show _ = _; unfold entL; rw [if_pos m1, if_pos hp1]
      go_wp2_with (with_reducible (show wpList _ _ _ _ _ _); refine stE (d := ⟨3, d / 8 % progs, -1, -1, 0⟩) rfl (.tmp 6) (.tmp 22) rfl g rfl rfl _ HBK.out rfl ?_)
      refine ret_entry Try.results33 g rfl (setRow_heap _ _ _ _ _ _ HBK.out) rfl ⟨by rw [HE.out], ?_⟩
      rw [HG.out]
      exact HBW.out.trans (((But.refl (fun k => g ≤ k) V).row g _ (.inl (Nat.le_refl _))).below (Nat.le_of_lt HBK.out.lt) fun k _ z => z)
    · have HE : Hid (entL d cpus progs = ⟨3, 0, -1, -1, 0⟩) := by show _ = _; unfold entL; rw [if_pos m1, if_neg hp1]
      by_cases hp2 : progs = 1
      · subst hp2
        clear hp1
        go_wp2_with (with_reducible (show wpList _ _ _ _ _ _); refine stE (d := ⟨3, 0, -1, -1, 0⟩) rfl (.tmp 6) (.tmp 22) rfl g rfl rfl _ HBK.out rfl ?_)
        refine ret_entry Try.results33 g rfl (setRow_heap _ _ _ _ _ _ HBK.out) rfl ⟨by rw [HE.out], ?_⟩
        rw [HG.out]
        exact HBW.out.trans (((But.refl (fun k => g ≤ k) V).row g _ (.inl (Nat.le_refl _))).below (Nat.le_of_lt HBK.out.lt) fun k _ z => z)
      · have hp3 : progs < 1 := by omega
        clear hp1 hp2
        go_wp2_with (with_reducible (show wpList _ _ _ _ _ _); refine stE (d := ⟨3, 0, -1, -1, 0⟩) rfl (.tmp 6) (.tmp 22) rfl g rfl rfl _ HBK.out rfl ?_)
        refine ret_entry Try.results33 g rfl (setRow_heap _ _ _ _ _ _ HBK.out) rfl ⟨by rw [HE.out], ?_⟩
        rw [HG.out]
        exact HBW.out.trans (((But.refl (fun k => g ≤ k) V).row g _ (.inl (Nat.le_refl _))).below (Nat.le_of_lt HBK.out.lt) fun k _ z => z)
  · have m1' : (d % 8 == 1) = false := by rw [beq_eq_false_iff_ne]; exact m1
    by_cases m0 : d % 8 = 0
    · have HE : Hid (entL d cpus progs = ⟨2, 0, 0, 0, 0⟩) := by show _ = _; unfold entL; rw [if_neg m1, if_pos (.inl m0)]
      go_wp2_with (with_reducible (show wpList _ _ _ _ _ _); refine stE (d := ⟨2, 0, 0, 0, 0⟩) rfl (.tmp 6) (.tmp 31) rfl g rfl rfl _ HBK.out rfl ?_)
      refine ret_entry Try.results33 g rfl (setRow_heap _ _ _ _ _ _ HBK.out) rfl ⟨by rw [HE.out], ?_⟩
      rw [HG.out]
      exact HBW.out.trans (((But.refl (fun k => g ≤ k) V).row g _ (.inl (Nat.le_refl _))).below (Nat.le_of_lt HBK.out.lt) fun k _ z => z)
    · have m0' : (d % 8 == 0) = false := by rw [beq_eq_false_iff_ne]; exact m0
      by_cases c0 : c = 0
      · have HE : Hid (entL d cpus progs = ⟨2, 0, 0, 0, 0⟩) := by show _ = _; unfold entL; rw [if_neg m1, if_pos (.inr (HC.out.trans c0))]
        subst c0
        go_wp2_with (with_reducible (show wpList _ _ _ _ _ _); refine stE (d := ⟨2, 0, 0, 0, 0⟩) rfl (.tmp 6) (.tmp 31) rfl g rfl rfl _ HBK.out rfl ?_)
        refine ret_entry Try.results33 g rfl (setRow_heap _ _ _ _ _ _ HBK.out) rfl ⟨by rw [HE.out], ?_⟩
        rw [HG.out]
        exact HBW.out.trans (((But.refl (fun k => g ≤ k) V).row g _ (.inl (Nat.le_refl _))).below (Nat.le_of_lt HBK.out.lt) fun k _ z => z)
      · have c0' : ((c : Int) == 0) = false := by rw [beq_eq_false_iff_ne]; omega
        have c1 : ¬ (c : Int) = 0 := by omega
        obtain ⟨q, hq0⟩ : ∃ q : Nat, d / 8 = q := ⟨(d / 8).toNat, by omega⟩
        have hmm : q % c < c := Nat.mod_lt _ (by omega)
        obtain ⟨b, o, rfl, -, hcc⟩ := HRV.out (q % c) (by rw [HC.out]; exact hmm)
        have HE : Hid (entL d cpus progs = ⟨1, cpus[q % c]'(by rw [HC.out]; exact hmm), 0, 0, d / 4294967296⟩) := by
          show _ = _
          unfold entL
          have e : (d / 8).toNat % cpus.length = q % c := by rw [HC.out, hq0]; rfl
          rw [if_neg m1, if_neg (by rw [HC.out]; omega), e, List.getD_eq_getElem?_getD, List.getElem?_eq_getElem (by rw [HC.out]; exact hmm)]; rfl
        generalize cpus[q % c]'(by rw [HC.out]; exact hmm) = x at *
        have hmod : d / 8 % (c : Int) = ((q % c : Nat) : Int) := by rw [hq0]; first | exact (Int.natCast_emod q c).symm | rfl
        have n0 : (0 : Int) ≤ d / 8 % (c : Int) := by rw [hmod]; omega
        have n1 : d / 8 % (c : Int) < (c : Int) := by rw [hmod]; omega
        have n2 : (d / 8 % (c : Int)).toNat = q % c := by rw [hmod]; rfl
        clear hmod hq0
        go_wp2_with (with_reducible (show wpList _ _ _ _ _ _); refine stE (d := ⟨1, x, 0, 0, d / 4294967296⟩) rfl (.tmp 6) (.tmp 42) rfl g rfl rfl _ HBK.out rfl ?_)
        refine ret_entry Try.results33 g rfl (setRow_heap _ _ _ _ _ _ HBK.out) rfl ⟨by rw [HE.out], ?_⟩
        rw [HG.out]
        exact HBW.out.trans (((But.refl (fun k => g ≤ k) V).row g _ (.inl (Nat.le_refl _))).below (Nat.le_of_lt HBK.out.lt) fun k _ z => z)
end Go.Proofs.Ytogplndhciaoeaa
