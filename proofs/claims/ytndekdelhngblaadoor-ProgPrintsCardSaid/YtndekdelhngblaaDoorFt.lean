/- What the laws of layer 9 lean on is in memory: the tables and variables of the row's list. -/
import Derived.Test.YtndekdelhngblaaDoorCh
import Derived.Test.YtndekdelhngblaaDoorFr
import Derived.Test.YtndekdelhngblaaDoorShelf
namespace Go.Proofs.YtndekdelhngblaaDoor
open Go.ChangeShapes Go.WideShapes Go.ChangeAt Go.RowKit

theorem met_tail {P : Program} {x : String × DataW Unit} {l : List (String × DataW Unit)} {W : World} (h : laidMet P (x :: l) W) : laidMet P l W := by
  obtain ⟨ps, hL, hn, hc⟩ := h
  obtain ⟨g, t, cs, fuel, p, q, hg, ht, hvar, hd, hr, rfl⟩ := hL
  exact ⟨q, hr, (List.nodup_append.1 hn).2.1, fun b off hx => hc b off (by simp [hx])⟩
theorem met_head {P : Program} {n : String} {d : DataW Unit} {l : List (String × DataW Unit)} {W : World} (h : laidMet P ((n, d) :: l) W) : ∃ (g : Nat) (t : TypeId) (cs : Array Value) (fuel : Nat) (p : List MemPlace) (enc : TypeId × Value → Unit), P.globalNamed n = some g ∧ (P.globals[g]?).map (·.type) = some t ∧ W.var? P n = some cs ∧ DataW.trod enc P W 0 (fun _ => true) false fuel t cs.toList = some (d, p) := by
  obtain ⟨ps, hL, hn, hc⟩ := h
  obtain ⟨g, t, cs, fuel, p, q, hg, ht, hvar, hd, hr, rfl⟩ := hL
  exact ⟨g, t, cs, fuel, p, _, hg, ht, hvar, hd⟩
theorem strs_of {enc : TypeId × Value → Unit} {P : Program} {W : World} {fuel : Nat} {t e : TypeId} {n : Nat} {cs : List Value} {zs : List (List UInt8)} {p : List MemPlace}
    (ht : P.underlying t = some (.array n e)) (he : P.underlying e = some .string) (hce : P.cellsOf e = 1)
    (h : DataW.trod enc P W 0 (fun _ => true) false fuel t cs = some (.agg (zs.map fun z : List UInt8 => (DataW.lit (Lit.string z) : DataW Unit)), p)) : ∀ (k : Nat) (z : List UInt8), zs[k]? = some z → cs[k]? = some (.string ⟨z.toArray⟩) := by
  obtain ⟨xs, m, _, hx, hcl, hxl, hi⟩ := DataW.trod_array ht h
  have hxs := congrArg Prod.fst hx
  simp only [DataW.agg.injEq] at hxs
  intro k z hz
  have hk : k < zs.length := (List.getElem?_eq_some_iff.1 hz).1
  have hkn : k < n := by have := congrArg List.length hxs; simp at this; omega
  have h1 := hi k hkn
  have hkx : k < xs.length := by omega
  rw [List.getElem?_eq_getElem hkx, hce, Nat.mul_one] at h1
  obtain ⟨s, e1, e2, _⟩ := DataW.trod_string he h1
  have h2 : (xs.map (·.1))[k]? = some (DataW.lit (Lit.string s.data.toList)) := by rw [List.getElem?_map, List.getElem?_eq_getElem hkx, e2]; rfl
  rw [← hxs, List.getElem?_map, hz] at h2
  have h3 : z = s.data.toList := by simpa using h2
  have h4 := congrArg (·[0]?) e1
  simp only [List.getElem?_take, List.getElem?_drop, Nat.add_zero] at h4
  rw [h3]
  simpa using h4
theorem err_of {enc : TypeId × Value → Unit} {P : Program} {W : World} {fuel : Nat} {t : TypeId} {ms : Array (String × TypeId)} {cs : List Value} {n : String} {d : DataW Unit} {p : List MemPlace}
    (ht : P.underlying t = some (.interface ms)) (h : DataW.trod enc P W 0 (fun _ => true) false fuel t cs = some (.iface n d, p)) : ∃ te pe, cs = [.iface te pe] := by
  cases fuel with
  | zero => simp [DataW.trod] at h
  | succ m =>
    unfold DataW.trod at h
    rw [ht] at h
    dsimp only at h
    split at h <;> first | exact ⟨_, _, rfl⟩ | simp_all
theorem tabs_of_laid {W : World} (h : laidMetH Tryd.prog Rows.progChecksRow.laid W) (hs : W.ShapedOpen Tryd.prog) : Tabs W := by
  have m0 : laidMet Tryd.prog Rows.progChecksRow.laid W := h
  have m2 := met_tail (met_tail m0)
  have m4 := met_tail (met_tail m2)
  have m5 := met_tail m4
  have m6 := met_tail m5
  have hgN : Tryd.prog.globalNamed "pinfold/prog.names" = some 0 := by kernel_rfl
  have hgS : Tryd.prog.globalNamed "strconv.ErrSyntax" = some 2 := by kernel_rfl
  have hgR : Tryd.prog.globalNamed "strconv.ErrRange" = some 3 := by kernel_rfl
  have htN : (Tryd.prog.globals[0]?).map (·.type) = some 42 := by kernel_rfl
  have htS : (Tryd.prog.globals[2]?).map (·.type) = some 69 := by kernel_rfl
  have htR : (Tryd.prog.globals[3]?).map (·.type) = some 69 := by kernel_rfl
  have hpow : Lib.TabIs Tryd.prog W "internal/strconv.uint64pow10" .u64 Lib.pow10Tab :=
    Lib.tabIs_of_head (zs := Lib.pow10Tab) gPow (by kernel_rfl) Tryd.underlying114 Tryd.underlying91 (by kernel_rfl) (by kernel_rfl) m2
  refine ⟨fun k hk => ?_, hpow, ?_, ?_, ?_, ?_⟩
  · obtain ⟨g, t, cs, fuel, p, enc, hg, ht, hvar, hd⟩ := met_head m6
    obtain rfl := Option.some.inj (hgN.symm.trans hg)
    obtain rfl := Option.some.inj (htN.symm.trans ht)
    have hz := strs_of (zs := (List.range 15).map nmL) Tryd.underlying42 Tryd.underlying9 (by kernel_rfl) hd k (nmL k) (by rw [List.getElem?_map, List.getElem?_range hk]; rfl)
    have := World.var?_cell hgN hvar k
    rw [this]; simpa using hz
  · have hg8 : Tryd.prog.globalNamed "math/bits.deBruijn64tab" = some 8 := by kernel_rfl
    obtain ⟨g, t, cs, fuel, p, enc, hg, ht, hvar, hd⟩ := met_head (met_tail m0)
    have hv := hvar
    unfold World.var? at hv
    rw [hg8, Option.bind_some] at hv
    by_cases h3 : 8 < W.heap.size
    · omega
    · rw [Array.getElem?_eq_none (by omega)] at hv; cases hv
  · exact Go.Proofs.cell_of_shapedOpen_int (zero := #[.int .i64 0]) (t := 3) hs (of_decide_eq_true (by kernel_rfl)) (by kernel_rfl) rfl (by kernel_rfl) (by kernel_rfl) Tryd.underlying3
  · obtain ⟨g, t, cs, fuel, p, enc, hg, ht, hvar, hd⟩ := met_head m5
    obtain rfl := Option.some.inj (hgS.symm.trans hg)
    obtain rfl := Option.some.inj (htS.symm.trans ht)
    obtain ⟨te, pe, e⟩ := err_of Tryd.underlying69 hd
    refine ⟨.iface te pe, ?_, .inr ⟨te, pe, rfl⟩⟩
    rw [World.var?_cell hgS hvar 0]
    rw [← Array.getElem?_toList, e]; rfl
  · obtain ⟨g, t, cs, fuel, p, enc, hg, ht, hvar, hd⟩ := met_head m4
    obtain rfl := Option.some.inj (hgR.symm.trans hg)
    obtain rfl := Option.some.inj (htR.symm.trans ht)
    obtain ⟨te, pe, e⟩ := err_of Tryd.underlying69 hd
    refine ⟨.iface te pe, ?_, .inr ⟨te, pe, rfl⟩⟩
    rw [World.var?_cell hgR hvar 0]
    rw [← Array.getElem?_toList, e]; rfl
set_option maxRecDepth 100000 in
/-- A program among the arguments; its priority is an int. -/
theorem open_prog2 {H : Type} {enc : TypeId × Value → H} {w : World} {base b0 : Nat} {spare : Nat → Bool} {held : Bool} {r : Reach} {v : Value} {d : DataW H} {ps : List MemPlace}
    (hv : Value.okWide Tryd.prog w r b0 24 v) (h : DataW.Trod enc Tryd.prog w base spare held 24 v d ps) : ∃ prio A l cap, In64 prio ∧ v = .agg #[.int .i64 prio, .slice A l.length cap] ∧ l.length ≤ cap ∧ InsIn w A l := by
  have hc : Tryd.prog.cellsOf 24 = 2 := by kernel_rfl
  unfold Value.okWide at hv
  rw [Tryd.underlying24] at hv
  obtain ⟨cs, rfl, hs, _⟩ := hv
  rw [hc] at hs
  obtain ⟨fuel, hf⟩ := h
  obtain ⟨xs, m, _, _, _, hxl, hg⟩ := DataW.trod_struct Tryd.underlying24 hf
  have h0 := hg 0 ⟨"Prio", 3, 0, false, "", "", 0⟩ rfl
  have h1 := hg 1 ⟨"Code", 22, 1, false, "", "", 8⟩ rfl
  dsimp only at h0 h1
  rw [show Tryd.prog.cellsOf 3 = 1 by kernel_rfl] at h0
  rw [show Tryd.prog.cellsOf 22 = 1 by kernel_rfl] at h1
  have hx2 : xs.length = 2 := hxl
  rw [List.getElem?_eq_getElem (by omega)] at h0 h1
  obtain ⟨n0, e0, _, wf0⟩ := DataW.trod_int Tryd.underlying3 h0
  have hin : In64 n0 := by simpa [In64, Lit.wf, IntKind.min, IntKind.max, IntKind.signed, IntKind.bits] using wf0
  have c0 : cs[0]? = some (.int .i64 n0) := by
    have := congrArg (·[0]?) e0
    simp only [Value.cells, List.drop_zero, List.getElem?_take] at this
    simpa using this
  have hsl : ∃ v, cs[1]? = some v := ⟨cs[1]'(by omega), Array.getElem?_eq_getElem (by omega)⟩
  obtain ⟨v1, c1⟩ := hsl
  have hcs : cs = #[.int .i64 n0, v1] := by
    apply Array.ext_getElem?
    intro i
    match i with
    | 0 => rw [c0]; rfl
    | 1 => rw [c1]; rfl
    | i + 2 => rw [Array.getElem?_eq_none (by omega), Array.getElem?_eq_none (by simp)]
  subst hcs
  simp only [Value.cells, List.drop_succ_cons, List.drop_zero, List.take_succ_cons, List.take_zero] at h1
  rcases DataW.trod_slice Tryd.underlying22 h1 with ⟨e1, _⟩ | ⟨a, len, cap, elems, rest, n, _, e1, _, _, hl, _, hel, hcell, _, _⟩
  · obtain rfl : v1 = .slice none 0 0 := by simpa using e1
    exact ⟨n0, none, [], 0, hin, rfl, Nat.le_refl _, fun i x hx => by simp at hx⟩
  · obtain rfl : v1 = .slice (some a) len cap := by simpa using e1
    have hC : Tryd.prog.cellsOf 38 = 4 := by kernel_rfl
    rw [hC] at hcell
    have one : ∀ i, i < len → ∃ x : I4, Fits x ∧ ∀ (j : Nat) u, ([Value.int .i64 x.op, .int .i64 x.a, .int .i64 x.b, .int .i32 x.n])[j]? = some u → w.cell? ((a.add (i * 4)).add j) = some u := by
      intro i hi
      have q := hcell i hi
      rw [List.getElem?_eq_getElem (by omega)] at q
      obtain ⟨cs', hcs', ht⟩ := Option.bind_eq_some_iff.1 q
      obtain ⟨_, hcl, hat⟩ := World.cells?_some hcs'
      obtain ⟨ys, n', _, _, _, hyl, hh⟩ := DataW.trod_struct Tryd.underlying38 ht
      have g0 := hh 0 ⟨"Op", 3, 0, false, "", "", 0⟩ rfl
      have g1 := hh 1 ⟨"A", 3, 1, false, "", "", 8⟩ rfl
      have g2 := hh 2 ⟨"B", 3, 2, false, "", "", 16⟩ rfl
      have g3 := hh 3 ⟨"N", 21, 3, false, "", "", 24⟩ rfl
      dsimp only at g0 g1 g2 g3
      rw [show Tryd.prog.cellsOf 3 = 1 by kernel_rfl] at g0 g1 g2
      rw [show Tryd.prog.cellsOf 21 = 1 by kernel_rfl] at g3
      have l4 : ys.length = 4 := hyl
      rw [List.getElem?_eq_getElem (by omega)] at g0 g1 g2 g3
      match cs', hcl with
      | [u0, u1, u2, u3], _ =>
        simp only [List.drop_zero, List.drop_succ_cons, List.take_succ_cons, List.take_zero] at g0 g1 g2 g3
        obtain ⟨m0, q0, _, w0⟩ := DataW.trod_int Tryd.underlying3 g0
        obtain ⟨m1, q1, _, w1⟩ := DataW.trod_int Tryd.underlying3 g1
        obtain ⟨m2, q2, _, w2⟩ := DataW.trod_int Tryd.underlying3 g2
        obtain ⟨m3, q3, _, w3⟩ := DataW.trod_int Tryd.underlying21 g3
        cases q0; cases q1; cases q2; cases q3
        refine ⟨⟨m0, m1, m2, m3⟩, ⟨?_, ?_, ?_, ?_⟩, fun j u hj => ?_⟩
        · simpa [In64, Lit.wf, IntKind.min, IntKind.max, IntKind.signed, IntKind.bits] using w0
        · simpa [In64, Lit.wf, IntKind.min, IntKind.max, IntKind.signed, IntKind.bits] using w1
        · simpa [In64, Lit.wf, IntKind.min, IntKind.max, IntKind.signed, IntKind.bits] using w2
        · simpa [Lit.wf, IntKind.min, IntKind.max, IntKind.signed, IntKind.bits] using w3
        · have hj4 : j < 4 := (List.getElem?_eq_some_iff.1 hj).1
          rw [hat j hj4]; exact hj
    have one' : ∀ i, ∃ x : I4, i < len → Fits x ∧ ∀ (j : Nat) u, ([Value.int .i64 x.op, .int .i64 x.a, .int .i64 x.b, .int .i32 x.n])[j]? = some u → w.cell? ((a.add (i * 4)).add j) = some u := fun i => by
      by_cases hi : i < len
      · obtain ⟨x, hx⟩ := one i hi
        exact ⟨x, fun _ => hx⟩
      · exact ⟨I4.zero, fun h => absurd h hi⟩
    obtain ⟨F, hF⟩ := Classical.axiomOfChoice one'
    refine ⟨n0, some a, (List.range len).map F, cap, hin, by simp, by simpa using hl, fun i x hx => ?_⟩
    have hi : i < len := by have := (List.getElem?_eq_some_iff.1 hx).1; simpa using this
    obtain rfl : F i = x := by
      rw [List.getElem?_map, List.getElem?_range hi] at hx; simpa using hx
    obtain ⟨hfit, hcl⟩ := hF i hi
    have hadd : ∀ (b off j : Nat), (⟨b, off, none⟩ : Addr).add j = ⟨b, off + j, none⟩ := fun b off j => by unfold Addr.add; split <;> simp_all
    have ha0 : ∀ x : Addr, x.add 0 = x := fun x => by unfold Addr.add; rw [if_pos rfl]
    have key : ∀ x : Addr, ∀ u, w.cell? x = some u → x.spot = none ∧ x.block < w.heap.size := by
      intro x u hx
      unfold World.cell? at hx
      by_cases hb : x.block < w.heap.size
      · refine ⟨?_, hb⟩
        cases hs : x.spot with
        | none => rfl
        | some y => rw [hs] at hx; split at hx <;> simp at hx
      · rw [Array.getElem?_eq_none (by omega)] at hx; cases hx
    have k0 : a.spot = none ∧ a.block < w.heap.size := by
      have z := (hF 0 (by omega)).2 0 _ rfl
      rw [Nat.zero_mul, ha0, ha0] at z
      exact key _ _ z
    obtain ⟨b, off, spot⟩ := a
    obtain ⟨k1, k2⟩ := k0
    simp only at k1 k2
    subst k1
    refine ⟨hfit, b, off, rfl, k2, ?_, ?_, ?_, ?_⟩
    · have := hcl 0 _ rfl; rw [hadd, ha0] at this; exact this
    · have := hcl 1 _ rfl; rw [hadd, hadd] at this; exact this
    · have := hcl 2 _ rfl; rw [hadd, hadd] at this; exact this
    · have := hcl 3 _ rfl; rw [hadd, hadd] at this; exact this
set_option maxRecDepth 100000 in
/-- A program among the arguments. -/
theorem open_prog {H : Type} {enc : TypeId × Value → H} {w : World} {base b0 : Nat} {spare : Nat → Bool} {held : Bool} {r : Reach} {v : Value} {d : DataW H} {ps : List MemPlace}
    (hv : Value.okWide Tryd.prog w r b0 24 v) (h : DataW.Trod enc Tryd.prog w base spare held 24 v d ps) : ∃ prio A l cap, v = .agg #[.int .i64 prio, .slice A l.length cap] ∧ l.length ≤ cap ∧ InsIn w A l := by
  obtain ⟨prio, A, l, cap, _, h1, h2, h3⟩ := open_prog2 hv h
  exact ⟨prio, A, l, cap, h1, h2, h3⟩
end Go.Proofs.YtndekdelhngblaaDoor
