/- The frame of a law's row: what the arguments read as, behind a call that leaves older memory alone; the library's tables; sets among the arguments. -/
import Derived.Test.YtchhenpijbecaaaDoorFi
import Derived.Test.YtchhenpijbecaaaDoorRows
import Derived.ProofKit
import Derived.OpenShut
import Derived.Deep.DeepHandedRow
import Derived.Lib.LaidTab
namespace Go.Proofs.YtchhenpijbecaaaDoor
open Go.ChangeShapes Go.WideShapes Go.ChangeAt Go.RowKit

section
variable {H : Type} {enc : TypeId × Value → H} {P : Program}
theorem trodAll_on (hl : laidOutB P = true) {W W' : World} (hb : Below W.heap.size W W') {sp : Nat → Bool} : ∀ {ts : List TypeId} {vs : List Value} {ds : List (DataW H)} {ps : List MemPlace},
    (∀ t ∈ ts, P.readableRec t = true ∧ t < P.types.size) → (∀ x ∈ ps, x.block < W.heap.size) → (∀ x ∈ ps, sp x.block = true) →
    DataW.TrodAll enc P W 0 (fun _ => true) true ts vs ds ps → DataW.TrodAll enc P W' 0 sp true ts vs ds ps
  | [], _, _, _, _, _, _, h => by
    obtain ⟨rfl, rfl, rfl⟩ := trodAll_nil h
    exact trodAll_mk0
  | t :: ts, _, _, _, hok, hlt, hsp, h => by
    obtain ⟨v, vs', d, ds', p, q, rfl, rfl, rfl, h0, h1⟩ := trodAll_cons h
    obtain ⟨ha, hc⟩ := hok t (by simp)
    refine trodAll_cons_mk (WideElems.Trod_stays hl ha hc h0 (fun x hx => hb.same (hlt x (by simp [hx]))) (fun x hx => hsp x (by simp [hx]))) ?_
    exact trodAll_on hl hb (fun u hu => hok u (by simp [hu])) (fun x hx => hlt x (by simp [hx])) (fun x hx => hsp x (by simp [hx])) h1
/-- The row's last step: the law answered true, and what was there stays. -/
theorem law_post {f : Func} {s : ChangeSpec} {W W' : World} {args : Array Value} {ds gs : List (DataW H)} {before : List MemPlace} {tb : TypeId}
    (hl : laidOutB P = true) (hW : DataW.Whole enc P f.params.toList s.vars false W args.toList ds gs before) (hv : s.vars = [])
    (hfn : s.fn H (ds ++ gs) = { results := [.lit (.bool true)], args := ds }) (hrt : f.resultTypes = #[tb]) (htb : P.underlying tb = some .bool)
    (hok : ∀ t ∈ f.params.toList, P.readableRec t = true ∧ t < P.types.size) (hb : Below W.heap.size W W') :
    s.post enc P f false true false false W args (.bool true) W' := by
  have hW0 := hW
  have hlt : ∀ p ∈ before, p.block < W.heap.size := fun p hp => hW0.lt p hp
  obtain ⟨pa, pv, hA, hV, rfl, hz, hn⟩ := hW
  rw [hv] at hV
  obtain ⟨rfl, rfl⟩ := trodVars_none hV
  have hargs : ∀ sp : Nat → Bool, (∀ p ∈ pa ++ [], sp p.block = true) → DataW.TrodAll enc P W' 0 sp true f.params.toList args.toList ds pa := fun sp h =>
    trodAll_on hl hb hok (fun x hx => hlt x (by simp [hx])) (fun x hx => h x (by simp [hx])) hA
  have hres : ∀ (b : Nat) (sp : Nat → Bool) (hd : Bool), DataW.TrodAll enc P W' b sp hd f.resultTypes.toList ((Value.bool true).resultList f.resultTypes.size) [.lit (.bool true)] [] := fun b sp hd => by
    rw [hrt]; exact trodAll_cons_mk (shut_bool htb _) trodAll_mk0
  refine ⟨ds, [], pa ++ [], [], pa, [], hW0, ?_, ?_, ?_, World.keptBut_mono (fun p hp => ⟨hp, Or.inr (by simpa using hp)⟩) (hb.frame (· ∈ pa ++ [])), fun h => by cases h⟩
  · rw [hfn]; exact hres _ _ _
  · rw [hfn]; exact hargs _ (fun p hp => by simpa using hlt p hp)
  · rw [hv, hfn]; rfl
end

/-- A set among the arguments: which workers it holds. -/
theorem open_set {H : Type} {enc : TypeId × Value → H} {w : World} {base b0 : Nat} {spare : Nat → Bool} {held : Bool} {r : Reach} {v : Value} {d : DataW H} {ps : List MemPlace}
    (hv : Value.okWide Tryd.prog w r b0 33 v) (h : DataW.Trod enc Tryd.prog w base spare held 33 v d ps) : ∃ p, v = .agg (cellsOf p) := by
  have hc : Tryd.prog.cellsOf 33 = 16 := by kernel_rfl
  unfold Value.okWide at hv
  rw [underSet] at hv
  obtain ⟨cs, rfl, hs, _⟩ := hv
  rw [hc] at hs
  obtain ⟨fuel, hf⟩ := h
  obtain ⟨xs, m, _, _, _, hxl, hi⟩ := DataW.trod_array underSet hf
  have hw : ∀ i, i < 16 → ∃ n : Nat, n < 2 ^ 64 ∧ cs[i]? = some (.int .u64 n) := fun i hi16 => by
    have h1 := hi i hi16
    rw [show Tryd.prog.cellsOf 31 = 1 by kernel_rfl] at h1
    have h2 : i < xs.length := by omega
    rw [List.getElem?_eq_getElem h2] at h1
    obtain ⟨n, e1, _, e3⟩ := DataW.trod_int Tryd.underlying31 h1
    have hb : 0 ≤ n ∧ n ≤ 18446744073709551615 := by
      simpa [Lit.wf, IntKind.min, IntKind.max, IntKind.signed, IntKind.bits] using e3
    obtain ⟨k, rfl⟩ := Int.eq_ofNat_of_zero_le hb.1
    refine ⟨k, by omega, ?_⟩
    have hlt : i < cs.toList.length := by simpa [hs] using hi16
    simp only [Value.cells, Nat.mul_one] at e1
    rw [List.drop_eq_getElem_cons hlt, List.take_succ_cons, List.take_zero] at e1
    have e4 := (List.cons.injEq _ _ _ _ ▸ e1).1
    have : cs.toList[i]? = some (.int .u64 (k : Int)) := by rw [List.getElem?_eq_getElem hlt, e4]
    simpa using this
  refine ⟨fun n => match cs[n / 64]? with | some (.int _ x) => x.toNat.testBit (n % 64) | _ => false, ?_⟩
  congr 1
  refine cells_ext hs fun i hi16 => ?_
  obtain ⟨n, hn, e⟩ := hw i hi16
  rw [e, ← word_eq hn fun k hk => ?_]
  rw [show (64 * i + k) / 64 = i by omega, e]
  simp only [Int.toNat_natCast]
  rw [show (64 * i + k) % 64 = k by omega]

/-- The row's list gives the table. -/
theorem tabs_of_laid {W : World} (h : laidMetH Tryd.prog Rows.codecIntsRow.laid W) : Tabs W := by
  have hm : laidMet Tryd.prog Rows.codecIntsRow.laid W := h
  have hm' := hm
  obtain ⟨ps, hL, hn, hc⟩ := hm
  obtain ⟨g, t, cs, fuel, p, q, hg, ht, hvar, hd, hr, rfl⟩ := hL
  have hs : 1 ≤ W.heap.size := by
    have hv := hvar
    unfold World.var? at hv
    rw [gTab64, Option.bind_some] at hv
    by_cases h3 : 0 < W.heap.size
    · omega
    · rw [Array.getElem?_eq_none (by omega)] at hv; cases hv
  exact ⟨Lib.tabIs_of_head (zs := Lib.deBruijn64tab.map fun n : Nat => (n : Int)) gTab64 (by kernel_rfl) Tryd.underlying86 Tryd.underlying5 (by kernel_rfl) (by kernel_rfl) hm', hs⟩
end Go.Proofs.YtchhenpijbecaaaDoor
