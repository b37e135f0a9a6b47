/-
  FlatKeeps, proved: of any machine of at most 40 tasks and locks, any programs and any event: what is right is right behind the event, a task that has exited stays as it is, and a lock goes from nobody or to nobody (the law answers true, and leaves what was there as it was). CONDITIONS: the form's own reach alone.
-/
import Derived.Test.YtdelddkpbdnckaaDoorCards
import Derived.Test.YtdelddkpbdnckaaDoorTie
import Derived.Test.YtdelddkpbdnckaaDoorLf
import Derived.Test.YtdelddkpbdnckaaDoorLj
import Derived.SevenTiedAt
import Derived.LaidMore
import Derived.Lay
import Derived.ChangeMaps5
namespace Go.Proofs.YtdelddkpbdnckaaDoor.flatKeeps
open Go.ChangeShapes Go.WideShapes Go.ChangeAt Go.RowKit

set_option maxRecDepth 100000
section
variable {H : Type} {enc : TypeId × Value → H} {w : World} {base b0 : Nat} {spare : Nat → Bool} {held : Bool} {r : Reach}
theorem set_cells {fuel : Nat} {l : List Value} {x : DataW H × List MemPlace} (hl : l.length = 16) (hf : DataW.trod enc Tryd.prog w base spare held fuel 24 l = some x) : ∃ p, l = (cellsOf p).toList := by
  obtain ⟨xs, m, _, _, _, hxl, hi⟩ := DataW.trod_array underSet hf
  have hw : ∀ i, i < 16 → ∃ n : Nat, n < 2 ^ 64 ∧ l[i]? = some (.int .u64 n) := fun i hi16 => by
    have h1 := hi i hi16
    rw [show Tryd.prog.cellsOf 22 = 1 by kernel_rfl] at h1
    have h2 : i < xs.length := by omega
    rw [List.getElem?_eq_getElem h2] at h1
    obtain ⟨n, e1, _, e3⟩ := DataW.trod_int Tryd.underlying22 h1
    have hb : 0 ≤ n ∧ n ≤ 18446744073709551615 := by
      simpa [Lit.wf, IntKind.min, IntKind.max, IntKind.signed, IntKind.bits] using e3
    obtain ⟨k, rfl⟩ := Int.eq_ofNat_of_zero_le hb.1
    refine ⟨k, by omega, ?_⟩
    have hlt : i < l.length := by omega
    simp only [Nat.mul_one] at e1
    rw [List.drop_eq_getElem_cons hlt, List.take_succ_cons, List.take_zero] at e1
    have e4 := (List.cons.injEq _ _ _ _ ▸ e1).1
    rw [List.getElem?_eq_getElem hlt, e4]
  refine ⟨fun n => match l.toArray[n / 64]? with | some (.int _ x) => x.toNat.testBit (n % 64) | _ => false, ?_⟩
  have e : l.toArray = cellsOf (fun n => match l.toArray[n / 64]? with | some (.int _ x) => x.toNat.testBit (n % 64) | _ => false) := by
    refine cells_ext (by simpa using hl) fun i hi16 => ?_
    obtain ⟨n, hn, e⟩ := hw i hi16
    rw [List.getElem?_toArray, e, ← word_eq hn fun k hk => ?_]
    rw [show (64 * i + k) / 64 = i by omega, List.getElem?_toArray, e]
    simp only [Int.toNat_natCast]
    rw [show (64 * i + k) % 64 = k by omega]
  rw [← e]
/-- A machine among the arguments. -/
theorem open_flat {v : Value} {d : DataW H} {ps : List MemPlace} (hv : Value.okWide Tryd.prog w r b0 30 v) (h : DataW.Trod enc Tryd.prog w base spare held 30 v d ps) :
    ∃ (f : Fl) (A A2 : Option Addr) (c c2 : Nat), v = flV (.slice A f.ts.length c) (.slice A2 f.ow.length c2) f.p f.tm ∧ InF w (.slice A f.ts.length c) (.slice A2 f.ow.length c2) f.ts f.ow ∧ f.ts.length ≤ c ∧ In64F f.tm := by
  have hc : Tryd.prog.cellsOf 30 = 19 := by kernel_rfl
  unfold Value.okWide at hv
  rw [under30] at hv
  obtain ⟨cs, rfl, hs, _⟩ := hv
  rw [hc] at hs
  obtain ⟨fuel, hf⟩ := h
  obtain ⟨xs, m, _, _, _, hxl, hg⟩ := DataW.trod_struct under30 hf
  have g0 := hg 0 ⟨"Tasks", 27, 0, false, "", "", 0⟩ rfl
  have g1 := hg 1 ⟨"Online", 24, 1, false, "", "", 24⟩ rfl
  have g2 := hg 2 ⟨"Owners", 28, 17, false, "", "", 152⟩ rfl
  have g3 := hg 3 ⟨"Time", 3, 18, false, "", "", 176⟩ rfl
  dsimp only at g0 g1 g2 g3
  rw [show Tryd.prog.cellsOf 27 = 1 by kernel_rfl] at g0
  rw [show Tryd.prog.cellsOf 24 = 16 by kernel_rfl] at g1
  rw [show Tryd.prog.cellsOf 28 = 1 by kernel_rfl] at g2
  rw [show Tryd.prog.cellsOf 3 = 1 by kernel_rfl] at g3
  have l4 : xs.length = 4 := hxl
  rw [List.getElem?_eq_getElem (by omega)] at g0 g1 g2 g3
  have hcl : (Value.agg cs).cells.toList.length = 19 := by simpa [Value.cells] using hs
  generalize hL : (Value.agg cs).cells.toList = L at g0 g1 g2 g3 hcl
  have hcs : cs = L.toArray := by rw [← hL]; simp [Value.cells]
  subst hcs
  clear hL
  obtain ⟨A, ts, c, e0, hcap, hts⟩ := open_rows (α := FT) (n := 8) Tryd.underlying27 (by kernel_rfl) (by decide) taskC (fun x => x.r.Ok) (FT.new 0) (fun m c d ps hc h => one_ft hc h) g0
  obtain ⟨A2, ow, c2, e2, _, how⟩ := open_rows (α := Int) (n := 1) Tryd.underlying28 (by kernel_rfl) (by decide) (fun x => [.int .i64 x]) (fun _ => True) 0 (fun m c d ps hc h => by obtain ⟨z, hz, _⟩ := one_int64 h; exact ⟨z, hz, trivial⟩) g2
  obtain ⟨t, e3, ht⟩ := one_int64 g3
  obtain ⟨p, e1⟩ := set_cells (by simp; omega) g1
  refine ⟨⟨ts, p, ow, t⟩, A, A2, c, c2, ?_, ⟨⟨A, c, rfl, fun i x hx => ?_⟩, A2, c2, rfl, fun i x hx => ?_⟩, hcap, ht⟩
  · have : L = flL (.slice A ts.length c) (.slice A2 ow.length c2) p t := by
      have q0 : L = L.take 1 ++ (L.drop 1).take 16 ++ (L.drop 17).take 1 ++ (L.drop 18).take 1 := by
        have a1 : L = L.take 1 ++ L.drop 1 := (List.take_append_drop 1 L).symm
        have a2 : L.drop 1 = (L.drop 1).take 16 ++ L.drop 17 := by
          conv => lhs; rw [← List.take_append_drop 16 (L.drop 1)]
          rw [List.drop_drop]
        have a3 : L.drop 17 = (L.drop 17).take 1 ++ L.drop 18 := by
          conv => lhs; rw [← List.take_append_drop 1 (L.drop 17)]
          rw [List.drop_drop]
        have a4 : L.drop 18 = (L.drop 18).take 1 := by rw [List.take_of_length_le (by simp; omega)]
        calc L = L.take 1 ++ L.drop 1 := a1
          _ = L.take 1 ++ ((L.drop 1).take 16 ++ ((L.drop 17).take 1 ++ (L.drop 18).take 1)) := by rw [← a4, ← a3, ← a2]
          _ = _ := by simp only [List.append_assoc]
      rw [List.drop_zero] at e0
      rw [q0, e0, e1, e2, e3]
      simp [flL]
    rw [this]
  · obtain ⟨_, b, off, ea, hb, hcell⟩ := hts i x hx
    exact ⟨b, off, ea, hb, fun j u hj => hcell j u hj⟩
  · obtain ⟨_, b, off, ea, hb, hcell⟩ := how i x hx
    refine ⟨b, off, ea, hb, ?_⟩
    have := hcell 0 _ rfl
    rwa [Nat.mul_one, Nat.add_zero] at this
/-- An event among the arguments. -/
theorem open_ev {v : Value} {d : DataW H} {ps : List MemPlace} (hv : Value.okWide Tryd.prog w r b0 36 v) (h : DataW.Trod enc Tryd.prog w base spare held 36 v d ps) : ∃ e : EvP, e.Ok ∧ v = evV e := by
  have hc : Tryd.prog.cellsOf 36 = 5 := by kernel_rfl
  unfold Value.okWide at hv
  rw [Tryd.underlying36] at hv
  obtain ⟨cs, rfl, hs, _⟩ := hv
  rw [hc] at hs
  obtain ⟨fuel, hf⟩ := h
  obtain ⟨e, he, hok⟩ := one_ev (by simpa [Value.cells] using hs) hf
  refine ⟨e, hok, ?_⟩
  have : cs = (evC e).toArray := by
    have := congrArg List.toArray he
    simpa [Value.cells] using this
  rw [this]
end

theorem own : ownKnob Tryd.prog.godebug = none := by kernel_rfl
theorem laidOut : laidOutB Tryd.prog = true := by kernel_rfl
theorem goodParams : ∀ t ∈ Tryd.f4.params.toList, Tryd.prog.readableRec t = true ∧ t < Tryd.prog.types.size := by
  have h : (Tryd.f4.params.toList.all fun t => Tryd.prog.readableRec t && decide (t < Tryd.prog.types.size)) = true := by kernel_rfl
  intro t ht
  have := List.all_eq_true.1 h t ht
  simpa using this

set_option maxRecDepth 100000 in
/-- WHAT THE WALK GIVES, FOR EVERY ARGUMENT AND EVERY WORLD THAT HOLDS THE TABLES. -/
theorem contract (H : Type) (enc : TypeId × Value → H) (W : World) (base : Nat) (args : Array Value) (ds gs : List (DataW H)) (before : List MemPlace)
    (hval : ∀ (j : Nat) t v, Tryd.f4.params[j]? = some t → args[j]? = some v → Value.okWide Tryd.prog W .any base t v)
    (hW : DataW.Whole enc Tryd.prog Tryd.f4.params.toList Rows.flatKeepsSpec.vars false W args.toList ds gs before) (hL : laidMetH Tryd.prog Rows.flatKeepsRow.laid W) (_hS : W.ShapedOpen Tryd.prog) :
    Calls Tryd.prog 4 args W fun e W' => ∃ v, e = .returned v ∧ Rows.flatKeepsSpec.post enc Tryd.prog Tryd.f4 false true false false W args v W' := by
  have hW' := hW
  obtain ⟨p, q, hA0, hV, rfl, hfz, hnd⟩ := hW
  have hA : DataW.TrodAll enc Tryd.prog W 0 (fun _ => true) true Tryd.f4.params.toList args.toList ds p := hA0
  clear hA0
  rw [Tryd.params4] at hA hval
  obtain ⟨rfl, rfl⟩ := trodVars_none hV
  obtain ⟨v0, vs0, d0, ds0, p0, q0, hargs, rfl, rfl, h0, r0⟩ := trodAll_cons hA
  obtain ⟨v1, vs1, d1, ds1, p1, q1, e1, rfl, rfl, h1, r1⟩ := trodAll_cons r0
  subst e1
  obtain ⟨v2, vs2, d2, ds2, p2, q2, e2, rfl, rfl, h2, r2⟩ := trodAll_cons r1
  subst e2
  obtain ⟨e, rfl, rfl⟩ := trodAll_nil r2
  subst e
  obtain rfl : args = #[v0, v1, v2] := by cases args; simp_all
  obtain ⟨fl0, AF0, AO0, cF0, cO0, rfl, hf0, hc0, ht0⟩ := open_flat (hval 0 30 _ rfl rfl) h0
  obtain ⟨ad1, l1, cap1, rfl, hp1⟩ := open_progs (hval 1 25 _ rfl rfl) h1
  obtain ⟨ev2, he2, rfl⟩ := open_ev (hval 2 36 _ rfl rfl) h2
  have hT : Tabs W := tabs_of_laid hL
  refine (keeps_any (gnd_of hT hp1) cap1 fl0 AF0 AO0 cF0 cO0 hf0 hc0 ht0 ev2 he2.a).mono fun e W' ⟨he, hg⟩ => ?_
  subst he
  exact ⟨_, rfl, law_post laidOut hW' rfl rfl (by kernel_rfl) Tryd.underlying4 goodParams hg⟩

/-- A WORLD FOR THE WITNESS: the heap that the door's own run leaves. -/
noncomputable def laidWorld (os : Os) : World := World.laidAll Tryd.prog os Rows.flatKeepsRow.laid
theorem laid_met (os : Os) : laidMet Tryd.prog Rows.flatKeepsRow.laid ((laidWorld os).forCall (fun _ _ => 0) ⟨#[], #[.agg #[.slice none 0 0, .int .u64 0, .int .u64 0, .int .u64 0, .int .u64 0, .int .u64 0, .int .u64 0, .int .u64 0, .int .u64 0, .int .u64 0, .int .u64 0, .int .u64 0, .int .u64 0, .int .u64 0, .int .u64 0, .int .u64 0, .int .u64 0, .slice none 0 0, .int .i64 0], .slice none 0 0, .agg #[.int .i64 0, .int .i64 0, .int .i64 0, .int .i64 0, .int .i64 0]], []⟩).memory :=
  laidMet_laidAll _ (by kernel_rfl) (by kernel_rfl)
theorem reads (os : Os) {H : Type} (enc : TypeId × Value → H) : ∃ places, DataW.whole enc Tryd.prog ((laidWorld os).forCall (fun _ _ => 0) ⟨#[], #[.agg #[.slice none 0 0, .int .u64 0, .int .u64 0, .int .u64 0, .int .u64 0, .int .u64 0, .int .u64 0, .int .u64 0, .int .u64 0, .int .u64 0, .int .u64 0, .int .u64 0, .int .u64 0, .int .u64 0, .int .u64 0, .int .u64 0, .int .u64 0, .slice none 0 0, .int .i64 0], .slice none 0 0, .agg #[.int .i64 0, .int .i64 0, .int .i64 0, .int .i64 0, .int .i64 0]], []⟩).memory Tryd.f4.params.toList Rows.flatKeepsSpec.vars false (#[.agg #[.slice none 0 0, .int .u64 0, .int .u64 0, .int .u64 0, .int .u64 0, .int .u64 0, .int .u64 0, .int .u64 0, .int .u64 0, .int .u64 0, .int .u64 0, .int .u64 0, .int .u64 0, .int .u64 0, .int .u64 0, .int .u64 0, .int .u64 0, .slice none 0 0, .int .i64 0], .slice none 0 0, .agg #[.int .i64 0, .int .i64 0, .int .i64 0, .int .i64 0, .int .i64 0]] : Array Value).toList 8 = some ([.agg [.nil, .agg [.lit (.int .u64 0), .lit (.int .u64 0), .lit (.int .u64 0), .lit (.int .u64 0), .lit (.int .u64 0), .lit (.int .u64 0), .lit (.int .u64 0), .lit (.int .u64 0), .lit (.int .u64 0), .lit (.int .u64 0), .lit (.int .u64 0), .lit (.int .u64 0), .lit (.int .u64 0), .lit (.int .u64 0), .lit (.int .u64 0), .lit (.int .u64 0)], .nil, .lit (.int .i64 0)], .nil, .agg [.lit (.int .i64 0), .lit (.int .i64 0), .lit (.int .i64 0), .lit (.int .i64 0), .lit (.int .i64 0)]], [], places) :=
  ⟨[], by kernel_rfl⟩

set_option maxRecDepth 100000 in
theorem lifted (os : Os) (started : os.Started) (H : Type) (enc : TypeId × Value → H) (F : Stop.Interp) :
    ReturnsInHanded {} Tryd.checked os 4 .any ((OpenSpec.ofChange Rows.flatKeepsSpec).preRow enc Tryd.prog Tryd.f4 Rows.flatKeepsRow.domain false Rows.flatKeepsRow.laid) (((OpenSpec.ofChange Rows.flatKeepsSpec).at F).post enc Tryd.prog Tryd.f4 false true false false) := by
  obtain ⟨places, hx⟩ := reads os enc
  refine returnsInHanded_of_row (C := Tryd.checked) (s := OpenSpec.ofChange Rows.flatKeepsSpec) own started (by kernel_rfl) Tryd.func4
    (witness_row_at (enc := enc) (C := Tryd.checked) false (laidWorld os) #[.agg #[.slice none 0 0, .int .u64 0, .int .u64 0, .int .u64 0, .int .u64 0, .int .u64 0, .int .u64 0, .int .u64 0, .int .u64 0, .int .u64 0, .int .u64 0, .int .u64 0, .int .u64 0, .int .u64 0, .int .u64 0, .int .u64 0, .int .u64 0, .slice none 0 0, .int .i64 0], .slice none 0 0, .agg #[.int .i64 0, .int .i64 0, .int .i64 0, .int .i64 0, .int .i64 0]] (World.laidAll_os _ _ _) (by kernel_rfl) (by kernel_rfl) (by kernel_rfl)
      (OpenSpec.preRow_of_cond 8 hx (by kernel_rfl) (fun k hk => by cases hk) (by kernel_rfl) (laid_met os))) ?_
  intro W base args ds gs before hval hW _ _ _ hL hS _
  exact contract H enc W base args ds gs before hval hW hL hS

theorem said : Rows.FlatKeepsSaid :=
  OpenClaim.holds_of_cond 4 Tryd.f4 rfl rfl rfl rfl rfl rfl rfl ⟨rfl, rfl, rfl, rfl, rfl⟩ rfl rfl rfl rfl rfl (by kernel_rfl) Tryd.func4 (by kernel_rfl)
    (of_decide_eq_true (by kernel_rfl)) (by unfold Func.isWrapper; first | (rw [if_pos (by decide +kernel)]; kernel_rfl) | (rw [if_neg (by decide +kernel)]; exact ⟨rfl, rfl⟩))
    (fun os started H enc _ F => by rw [OpenClaim.pre_eq_preRow]; exact lifted os started H enc F)

theorem plain (f : FuncId) (fn : Func) (hf : Tryd.pinned.checked.prog.funcNamed "pinfold/pinfoldlaw19.FlatKeeps" = some f) (hfn : Tryd.pinned.checked.prog.funcs[f]? = some fn) :
    false = Tryd.pinned.checked.prog.looks [] ∧ ∀ (j : Nat) t, fn.params[j]? = some t → Tryd.pinned.checked.prog.wantsStandIn t = false := by
  obtain rfl : f = 4 := Option.some.inj ((show Tryd.prog.funcNamed "pinfold/pinfoldlaw19.FlatKeeps" = some 4 by kernel_rfl).symm.trans hf) |>.symm
  obtain rfl : fn = Tryd.f4 := (Option.some.inj (Tryd.func4.symm.trans hfn)).symm
  refine ⟨by kernel_rfl, fun j t ht => ?_⟩
  have hall : (Tryd.f4.params.toList.all fun u => !Tryd.prog.wantsStandIn u) = true := by kernel_rfl
  have hm : t ∈ Tryd.f4.params.toList := by simpa using Array.mem_of_getElem? ht
  exact (show Tryd.prog.wantsStandIn t = false by simpa using List.all_eq_true.1 hall t hm)

/-- ████ THE CARD ████ -/
theorem card : Rows.FlatKeepsCardSaid :=
  Claim7.holds_tied_plain_at .later [] _ _ _ _ said (fun _ h => by cases h) (by kernel_rfl) (fun _ h => by cases h) flatKeeps_row_tie rfl ⟨rfl, rfl⟩ (by kernel_rfl) rfl plain (by kernel_rfl)
end Go.Proofs.YtdelddkpbdnckaaDoor.flatKeeps
namespace Go.Proofs.YtdelddkpbdnckaaDoor
theorem flatKeeps_card : Rows.FlatKeepsCardSaid := flatKeeps.card
end Go.Proofs.YtdelddkpbdnckaaDoor
