/- layer 27 (stuck): Chain. -/
import Derived.Test.YtogplndhciaoeaaQf
import Derived.Maps.OwnSet
namespace Go.Proofs.Ytogplndhciaoeaa
open Go.RowKit Go.Maps
set_option maxRecDepth 100000

/-- a map to nothing: which numbers are in it. -/
def MapS (w : World) (b n : Nat) (s : Int → Bool) : Prop :=
  ∃ D : DataW Unit, w.ownsMap Try.prog 3 unitElem b n D ∧ IsMap D ∧ ∀ x, W64 x → Maps.has D (.int .i64 x) = s x
theorem mapS_made (w : World) : MapS (w.alloc (.map #[] 0)) w.heap.size 0 fun _ => false :=
  ⟨.map [], w.ownsMap_made _ _ _, ⟨_, rfl⟩, fun _ _ => rfl⟩
theorem MapS.blk {w w' : World} {b n : Nat} {m : Int → Bool} (h : MapS w b n m) (hb : w'.heap[b]? = w.heap[b]?) : MapS w' b n m := by
  obtain ⟨D, ⟨es, clock, h1, h2, h3, h4⟩, h5⟩ := h
  exact ⟨D, ⟨es, clock, hb.trans h1, h2, h3, h4⟩, h5⟩
theorem zeroS (w : World) : (zeroValue 65).run Try.prog w = .ok (.agg #[]) w := by kernel_rfl
theorem MapS.look {w : World} {b n : Nat} {s : Int → Bool} (h : MapS w b n s) {x : Int} (hx : W64 x) :
    (Instr.lookup 64 (.map (some b)) (.int .i64 x) true).run Try.prog w = .ok (.tuple #[.agg #[], .bool (s x)]) w := by
  obtain ⟨D, h1, h2, h3⟩ := h
  obtain ⟨v, ps, hrun, hv⟩ := h1.look_ok keyI Try.underlying64 (zeroS w) unitElem_mk (keyOf_int_mk (P := Try.prog) Try.underlying3 hx)
  obtain ⟨rfl, _⟩ := unitElem_inv hv
  rw [hrun, h3 x hx]
theorem MapS.update {w : World} {b n : Nat} {s : Int → Bool} (h : MapS w b n s) (hn : n < maxLen) {x : Int} (hx : W64 x) :
    ∃ w', (Instr.mapUpdate 64 (.map (some b)) (.int .i64 x) (.agg #[])).run Try.prog w = .ok () w' ∧ MapS w' b (n + 1) (fun y => y == x || s y) ∧ w.grownBy w' (some b) := by
  obtain ⟨D, h1, h2, h3⟩ := h
  have hk := keyOf_int_mk (P := Try.prog) Try.underlying3 hx
  obtain ⟨w', r1, r2, r3⟩ := h1.update keyI Try.underlying64 hn hk unitElem_mk
  refine ⟨w', r1, ⟨_, r2, ?_, fun y hy => ?_⟩, r3⟩
  · obtain ⟨es, rfl⟩ := h2; exact ⟨_, rfl⟩
  · by_cases ce : y = x
    · subst ce
      rw [has_put_same h2 (keyI.key hk)]; simp
    · rw [has_put_other (fun e => ce (by injection e)), h3 y hy]
      have : (y == x) = false := by rw [beq_eq_false_iff_ne]; exact ce
      show s y = (y == x || s y)
      rw [this]; rfl
theorem up_set {b n : Nat} {s : Int → Bool} {ops : Array Oper} {rest : List Oper} {o : Oper} {a : Act} {w : World} {Q : Exit → Act → World → Prop} (hg : o.guard = none) (M X V : Operand) (ho : o.op = .mapUpdate 64 M X V)
    (hm : a.eval M = .map (some b)) (h : MapS w b n s) (hn : n < maxLen) (x : Int) (hx : a.eval X = .int .i64 x) (hv : a.eval V = .agg #[]) (hx64 : W64 x)
    (K : ∀ w', MapS w' b (n + 1) (fun y => y == x || s y) → w.grownBy w' (some b) → wpList Try.prog ops Q rest (a.put o.dst undef) w') : wpList Try.prog ops Q (o :: rest) a w := by
  refine wpList_plain hg fun K' hK' => ?_
  obtain ⟨w', hrun, r1, r2⟩ := h.update hn hx64
  unfold Oper.wp
  simp [execOp, ho, hm, hx, hv, hrun, Result.andThen]
  exact hK' _ _ (K w' r1 r2)
theorem run_mkS (w : World) : (Instr.makeMap 64 none).run Try.prog w = .ok (.map (some w.heap.size)) (w.alloc (.map #[] 0)) := by
  simp [Instr.makeMap, Result.andThen]
theorem ownN_base {w : World} {B B' : Nat} {v : Value} {l : List Int} (h : OwnN B w v l) (hB : B' ≤ B) : OwnN B' w v l :=
  ⟨h.1, h.2.imp id fun ⟨g, cap, cur, e1, e2, r⟩ => ⟨g, cap, cur, e1, Nat.le_trans hB e2, r⟩⟩
theorem mem_snoc_bool (a : List Int) (s : Int) : (fun y => y == s || decide (y ∈ a)) = fun y => decide (y ∈ a ++ [s]) := by
  funext y
  rw [Bool.eq_iff_iff]
  simp only [Bool.or_eq_true, beq_iff_eq, decide_eq_true_eq, List.mem_append, List.mem_singleton]
  exact Or.comm
set_option maxHeartbeats 8000000 in
theorem chain_any (A : Option Addr) (l : List (Int × Int)) (n cap : Nat) (hn : l.length = n) (hl : n ≤ 1000) (hf : ∀ x ∈ l, W64 x.1 ∧ W64 x.2) (h1 : (l.map (·.1)).Nodup) (t0 : Int) (ht : W64 t0) (w : World) (h : RowW w.heap.size w A l) :
    Calls Try.prog 24 #[.slice A n cap, .int .i64 t0] w fun e w' => ∃ v c, e = .returned v ∧ OwnN w.heap.size w' v c ∧ Chn l t0 c ∧ c.length ≤ n + 1 ∧ Below w.heap.size w w' := by
  have HN := Lib.hid hn; have HF := Lib.hid hf; have HT := Lib.hid ht
  have HWH : Hid (Calls Try.prog 37 #[.slice A n cap] w fun e w' => e = .returned (.map (some w.heap.size)) ∧ MapI 3 w' w.heap.size n (nxt l) ∧ Below w.heap.size w w' ∧ w.heap.size < w'.heap.size) := by
    have := whom_any A l n cap hn hl hf w h
    rw [show putL (fun _ => none) l = nxt l from funext fun x => put_one h1 x] at this
    exact this
  clear h hn hf h1 ht
  go_enter Try.func24, Try.ntmps24
  have hmk : ∀ W, (Instr.makeMap 64 none).run Try.prog W = .ok (.map (some W.heap.size)) (W.alloc (.map #[] 0)) := run_mkS
  go_wp2_with fail
  go_step3
  go_wp2_with (go_at_call 37; (with_reducible refine HWH.out.mono ?_); rintro e w1 ⟨rfl, hm, hb, hs⟩; have HM := Lib.hid hm; have HB := Lib.hid hb; have HS := Lib.hid hs; clear hm hb hs)
  go_step3
  clear hmk HWH
  have hms := mapS_made w1
  have hbl : Below w1.heap.size w1 (w1.alloc (.map #[] 0)) := (Below.refl _ _).alloc (Nat.le_refl _) _
  have hsz : (w1.alloc (.map #[] 0)).heap.size = w1.heap.size + 1 := by simp
  generalize w1.alloc (.map #[] 0) = V at *
  have HMS := Lib.hid hms; have HBL := Lib.hid hbl; have HSZ := Lib.hid hsz
  clear hms hbl hsz
  obtain ⟨bs, hbs⟩ : ∃ bs, w1.heap.size = bs := ⟨_, rfl⟩
  rw [hbs] at HMS HBL HSZ HS ⊢
  clear hbs
  go_wp2_with fail
  go_loopw [1, 6] (fun tv av wr => ∃ (a : List Int) (s : Int), tv = .int .i64 s ∧ OwnN (bs + 1) wr av a ∧ Fol l (fun _ => 0) t0 a s ∧ s ∉ a ∧ W64 s ∧ MapS wr bs a.length (fun x => decide (x ∈ a)) ∧ Below bs V wr) (fun _ av _ => n + 1 - rowLen av)
  case atStart => exact ⟨[], t0, rfl, World.ownsRow_nil _ _ _ _, Fol.start l _ t0, by simp, HT.out, by simpa using HMS.out, Below.refl _ _⟩
  case round =>
    obtain ⟨a, s, rfl, hav, hF, hsa, hs64, hmm, hb⟩ := hrel
    have HAV := Lib.hid hav; have HFo := Lib.hid hF; have HSA := Lib.hid hsa; have HS64 := Lib.hid hs64; have HMM := Lib.hid hmm; have HB2 := Lib.hid hb
    have HAL := Lib.hid hF.len
    rw [HN.out] at HAL
    clear hav hF hsa hs64 hmm hb
    have HBS : Hid (bs < wr.heap.size) := by show bs < wr.heap.size; have := HB2.out.size; have := HSZ.out; omega
    have HLL : Hid (a.length ≤ 100000) := Nat.le_trans HAL.out (by omega)
    go_upto_region 5 with (with_reducible (show wpList _ _ _ _ _ _); refine app_n rfl (.tmp 15) (.tmp 17) rfl (bs + 1) u6 a rfl (HAV.out.alloc _) wr.heap.size 1 s rfl ((Blk.new wr _ _).cell 0) HLL.out (by have := HBS.out; simp; omega) ?_; intro v5 w5 ho5 hg5; have HO5 := Lib.hid ho5; have HB5 := Lib.hid (((Below.refl (bs + 1) wr).alloc (by have := HBS.out; omega) _).grown hg5 (by have := HBS.out; simp; omega) (fun r e => (HAV.out.lt r e).1)); clear ho5 hg5)
    have HM5 : Hid (MapS w5 bs a.length (fun x => decide (x ∈ a))) := HMM.out.blk (HB5.out.block bs (Nat.lt_succ_self _))
    have HS5 : Hid (bs < w5.heap.size) := Nat.lt_of_lt_of_le HBS.out HB5.out.size
    go_upto_region 6 with (with_reducible (show wpList _ _ _ _ _ _); refine up_set rfl (.tmp 19) (.tmp 20) (.tmp 21) rfl rfl HM5.out (by have := HLL.out; unfold maxLen; omega) s rfl rfl HS64.out ?_; intro w6 hm6 hg6; have HM6 := Lib.hid hm6; have HG6 := Lib.hid hg6; clear hm6 hg6)
    have HB6 : Hid (Below bs w5 w6) := ((But.refl (fun b => b = bs) w5).grown HG6.out fun k hk => .inl (Option.some.inj hk).symm).below (Nat.le_of_lt HS5.out) fun b _ h => Nat.le_of_eq h.symm
    have HO6 : Hid (OwnN (bs + 1) w6 v5 (a ++ [s])) := HO5.out.kept HG6.out (.inr fun e => by have := (HO5.out.lt bs e).1; omega)
    have HM7 : Hid (MapS w6 bs (a ++ [s]).length (fun x => decide (x ∈ a ++ [s]))) := by
      have := HM6.out
      rw [mem_snoc_bool] at this
      rw [List.length_append]; exact this
    have HBV : Hid (Below bs V w6) := HB2.out.trans ((HB5.out.mono (Nat.le_succ _)).trans HB6.out)
    have HBW : Hid (Below w.heap.size w w6) := HB.out.trans ((HBL.out.mono (Nat.le_of_lt HS.out)).trans (HBV.out.mono (Nat.le_of_lt HS.out)))
    have HMI : Hid (MapI 3 w6 w.heap.size n (nxt l)) := HM.out.blk ((HBL.out.trans HBV.out).block w.heap.size HS.out)
    clear HMM HM5 HM6 HO5
    have lk1 := HMI.out.look true Try.underlying59 Try.underlying3 (zeroI w6) HS64.out
    have HNI : Hid (∀ u, nxt l s = some u → (s, u) ∈ l) := fun u h => nxt_in h
    have HFN : Hid (∀ u, nxt l s = some u → Fol l (fun _ => 0) t0 (a ++ [s]) u) := fun u h => HFo.out.step (by unfold midK; rw [if_neg HSA.out]) h
    have HCH : Hid ((∀ u, nxt l s = some u → u ∈ a ++ [s]) → Chn l t0 (a ++ [s])) := fun h => HFo.out.chn HSA.out h
    match hv : nxt l s with
    | none =>
      rw [hv] at lk1 HCH
      have lk2 := HM7.out.look (w64_small (x := 0) (by decide) (by decide))
      have HC := Lib.hid (HCH.out fun u h => by cases h)
      clear hv HCH
      simp only [if_true, Option.getD_none, Option.isSome_none] at lk1
      generalize decide ((0 : Int) ∈ a ++ [s]) = z0 at *
      go_wp2_with fail
      rw [Exit.noGoto_ret]
      go_ret
      refine ⟨_, _, rfl, ownN_base (HO6.out.alloc _) (by have := HS.out; omega), HC.out, ?_, HBW.out.alloc HBW.out.size _⟩
      rw [List.length_append]
      exact Nat.succ_le_succ HAL.out
    | some u =>
      rw [hv] at lk1 HCH HFN HNI
      have HUW := Lib.hid (HF.out _ (HNI.out u rfl)).2
      have lk2 := HM7.out.look HUW.out
      have HFU := Lib.hid (HFN.out u rfl)
      clear hv HFN HNI
      simp only [if_true, Option.getD_some, Option.isSome_some] at lk1
      by_cases hu : u ∈ a ++ [s]
      · have HC := Lib.hid (HCH.out fun u' h => by injection h with h; rw [← h]; exact hu)
        rw [decide_eq_true hu] at lk2
        clear hu HCH
        go_wp2_with fail
        try rw [Exit.noGoto_ret]
        go_ret
        refine ⟨_, _, rfl, ownN_base (HO6.out.alloc _) (by have := HS.out; omega), HC.out, ?_, HBW.out.alloc HBW.out.size _⟩
        rw [List.length_append]
        exact Nat.succ_le_succ HAL.out
      · have HU := Lib.hid hu
        rw [decide_eq_false hu] at lk2
        clear hu HCH
        go_wp2_with fail
        go_roundw
        case rel => exact ⟨a ++ [s], u, rfl, HO6.out.alloc _, HFU.out, HU.out, HUW.out, HM7.out.blk (((Below.refl (bs + 1) w6).alloc (by have := HBV.out.size; have := HSZ.out; omega) _).block bs (Nat.lt_succ_self _)), HBV.out.alloc (by have := HBV.out.size; have := HSZ.out; omega) _⟩
        case measure =>
          have h1 := HAL.out
          obtain ⟨A1, c1, e1, -⟩ := own_rowN HO6.out
          obtain ⟨A2, c2, e2, -⟩ := own_rowN HAV.out
          rw [e1, e2]
          simp only [rowLen, List.length_append, List.length_singleton] at *
          omega
end Go.Proofs.Ytogplndhciaoeaa
