/- The arguments of the laws of layer 19: rows of programs, of events; a machine; an event. -/
import Derived.Test.YtilaalleiiakoaaDoorFr
import Derived.Test.YtilaalleiiakoaaDoorKx
import Derived.Deep.Slices
namespace Go.Proofs.YtilaalleiiakoaaDoor
open Go.ChangeShapes Go.WideShapes Go.ChangeAt Go.RowKit
set_option maxRecDepth 100000

section
variable {H : Type} {enc : TypeId × Value → H} {w : World} {base b0 : Nat} {spare : Nat → Bool} {held : Bool} {r : Reach}
theorem addr_add0 (x : Addr) : x.add 0 = x := by unfold Addr.add; rw [if_pos rfl]
theorem addr_key (x : Addr) (u : Value) (hx : w.cell? x = some u) : x.spot = none ∧ x.block < w.heap.size := by
  unfold World.cell? at hx
  by_cases hb : x.block < w.heap.size
  · refine ⟨?_, hb⟩
    cases hs : x.spot with
    | none => rfl
    | some y => rw [hs] at hx; split at hx <;> simp at hx
  · rw [Array.getElem?_eq_none (by omega)] at hx; cases hx
/-- A row of structs, wherever it is read. -/
theorem open_rows {α : Type} {t e : TypeId} {n fuel : Nat} {cs : List Value} {x : DataW H × List MemPlace} (hu : Tryd.prog.underlying t = some (.slice e)) (hC : Tryd.prog.cellsOf e = n) (hn : 0 < n) (cells : α → List Value) (Q : α → Prop) (dflt : α)
    (one : ∀ (m : Nat) (c : List Value) (d : DataW H) (ps : List MemPlace), c.length = n → DataW.trod enc Tryd.prog w base spare held m e c = some (d, ps) → ∃ x : α, c = cells x ∧ Q x)
    (h : DataW.trod enc Tryd.prog w base spare held fuel t cs = some x) : ∃ (A : Option Addr) (l : List α) (cap : Nat), cs = [.slice A l.length cap] ∧ l.length ≤ cap ∧ ∀ i x, l[i]? = some x → Q x ∧ ∃ b off, A = some ⟨b, off, none⟩ ∧ b < w.heap.size ∧ ∀ j u, (cells x)[j]? = some u → w.cell? ⟨b, off + i * n + j, none⟩ = some u := by
  rcases DataW.trod_slice hu h with ⟨e1, _⟩ | ⟨a, len, cap, elems, rest, m, _, e1, _, _, hl, _, hel, hcell, _, _⟩
  · exact ⟨none, [], 0, by simpa using e1, Nat.le_refl _, fun i x hx => by simp at hx⟩
  · have key : ∀ i, ∃ x : α, i < len → Q x ∧ ∃ c, c.length = n ∧ c = cells x ∧ ∀ j, j < n → w.cell? ((a.add (i * n)).add j) = c[j]? := fun i => by
      by_cases hi : i < len
      · have q := hcell i hi
        rw [hC, List.getElem?_eq_getElem (by omega)] at q
        obtain ⟨c, hcs, ht⟩ := Option.bind_eq_some_iff.1 q
        obtain ⟨_, hcl, hat⟩ := World.cells?_some hcs
        obtain ⟨x, hx, hq⟩ := one m c _ _ hcl ht
        exact ⟨x, fun _ => ⟨hq, c, hcl, hx, fun j hj => hat j hj⟩⟩
      · exact ⟨dflt, fun z => absurd z hi⟩
    obtain ⟨F, hF⟩ := Classical.axiomOfChoice key
    refine ⟨some a, (List.range len).map F, cap, by simpa using e1, by simpa using hl, fun i x hx => ?_⟩
    have hi : i < len := by have := (List.getElem?_eq_some_iff.1 hx).1; simpa using this
    obtain rfl : F i = x := by rw [List.getElem?_map, List.getElem?_range hi] at hx; simpa using hx
    obtain ⟨hq, c, hcl, hcx, hat⟩ := hF i hi
    obtain ⟨_, c0, hcl0, hcx0, hat0⟩ := hF 0 (by omega)
    have k0 := hat0 0 hn
    rw [Nat.zero_mul, addr_add0, addr_add0, List.getElem?_eq_getElem (by omega)] at k0
    obtain ⟨k1, k2⟩ := addr_key _ _ k0
    obtain ⟨b, off, spot⟩ := a
    simp only at k1 k2
    subst k1
    refine ⟨hq, b, off, rfl, k2, fun j u hj => ?_⟩
    have hjn : j < n := by have := (List.getElem?_eq_some_iff.1 hj).1; rw [← hcx, hcl] at this; exact this
    have := hat j hjn
    rw [Addr.add_mid, Addr.add_mid] at this
    rw [this, hcx]; exact hj
theorem slice_of_cells {t e : TypeId} {v : Value} (hu : Tryd.prog.underlying t = some (.slice e)) (hv : Value.okWide Tryd.prog w r b0 t v) {u : Value} (hc : v.cells.toList = [u]) : v = u := by
  have hagg : ∀ cs, v ≠ .agg cs := by
    rintro cs rfl
    unfold Value.okWide at hv
    rw [hu] at hv
    simp only at hv
    unfold Cell.okWide at hv
    rw [hu] at hv
    simp only at hv
    unfold Cell.ok at hv
    rw [hu] at hv
    simp at hv
  cases v <;> simp_all [Value.cells]
theorem one_int64 {fuel : Nat} {cs : List Value} {x : DataW H × List MemPlace} (h : DataW.trod enc Tryd.prog w base spare held fuel 3 cs = some x) : ∃ n, cs = [.int .i64 n] ∧ In64F n := by
  obtain ⟨n, e, _, wf⟩ := DataW.trod_int Tryd.underlying3 h
  exact ⟨n, e, by simpa [In64F, Lit.wf, IntKind.min, IntKind.max, IntKind.signed, IntKind.bits] using wf⟩
theorem one_int32 {fuel : Nat} {cs : List Value} {x : DataW H × List MemPlace} (h : DataW.trod enc Tryd.prog w base spare held fuel 21 cs = some x) : ∃ n, cs = [.int .i32 n] ∧ In32 n := by
  obtain ⟨n, e, _, wf⟩ := DataW.trod_int Tryd.underlying21 h
  exact ⟨n, e, by simpa [In32, Lit.wf, IntKind.min, IntKind.max, IntKind.signed, IntKind.bits] using wf⟩
abbrev evC (e : EvP) : List Value := [.int .i64 e.kd, .int .i64 e.tk, .int .i64 e.cpu, .int .i64 e.a, .int .i64 e.b]
theorem one_ev {m : Nat} {c : List Value} {d : DataW H} {ps : List MemPlace} (hc : c.length = 5) (h : DataW.trod enc Tryd.prog w base spare held m 36 c = some (d, ps)) : ∃ e : EvP, c = evC e ∧ e.Ok := by
  obtain ⟨xs, _, _, _, _, hxl, hg⟩ := DataW.trod_struct Tryd.underlying36 h
  have g0 := hg 0 ⟨"Kind", 3, 0, false, "", "", 0⟩ rfl
  have g1 := hg 1 ⟨"Task", 3, 1, false, "", "", 8⟩ rfl
  have g2 := hg 2 ⟨"Cpu", 3, 2, false, "", "", 16⟩ rfl
  have g3 := hg 3 ⟨"A", 3, 3, false, "", "", 24⟩ rfl
  have g4 := hg 4 ⟨"B", 3, 4, false, "", "", 32⟩ rfl
  dsimp only at g0 g1 g2 g3 g4
  rw [show Tryd.prog.cellsOf 3 = 1 by kernel_rfl] at g0 g1 g2 g3 g4
  have l5 : xs.length = 5 := hxl
  rw [List.getElem?_eq_getElem (by omega)] at g0 g1 g2 g3 g4
  match c, hc with
  | [u0, u1, u2, u3, u4], _ =>
    simp only [List.drop_zero, List.drop_succ_cons, List.take_succ_cons, List.take_zero] at g0 g1 g2 g3 g4
    obtain ⟨m0, q0, w0⟩ := one_int64 g0
    obtain ⟨m1, q1, w1⟩ := one_int64 g1
    obtain ⟨m2, q2, w2⟩ := one_int64 g2
    obtain ⟨m3, q3, w3⟩ := one_int64 g3
    obtain ⟨m4, q4, w4⟩ := one_int64 g4
    cases q0; cases q1; cases q2; cases q3; cases q4
    exact ⟨⟨m0, m1, m2, m3, m4⟩, rfl, w0, w1, w2, w3, w4⟩
theorem one_pr {m : Nat} {c : List Value} {d : DataW H} {ps : List MemPlace} (hc : c.length = 2) (h : DataW.trod enc Tryd.prog w base spare held m 53 c = some (d, ps)) : ∃ q : PR, c = [.int .i64 q.prio, .slice q.A q.l.length q.cap] ∧ InsIn w q.A q.l := by
  match c, hc with
  | [c0, v1], _ =>
    obtain ⟨prio, A, l, cap, _, h2, _, h4⟩ := prog_cells h
    exact ⟨⟨prio, A, l, cap⟩, h2, h4⟩
theorem one_ft {m : Nat} {c : List Value} {d : DataW H} {ps : List MemPlace} (hc : c.length = 8) (h : DataW.trod enc Tryd.prog w base spare held m 45 c = some (d, ps)) : ∃ x : FT, c = taskC x ∧ x.r.Ok := by
  obtain ⟨xs, mm, _, _, _, hxl, hg⟩ := DataW.trod_struct Tryd.underlying45 h
  have g0 := hg 0 ⟨"Prog", 3, 0, false, "", "", 0⟩ rfl
  have g1 := hg 1 ⟨"Pc", 3, 1, false, "", "", 8⟩ rfl
  have g2 := hg 2 ⟨"Regs", 43, 2, false, "", "", 16⟩ rfl
  have g3 := hg 3 ⟨"State", 3, 6, false, "", "", 32⟩ rfl
  have g4 := hg 4 ⟨"On", 3, 7, false, "", "", 40⟩ rfl
  dsimp only at g0 g1 g2 g3 g4
  rw [show Tryd.prog.cellsOf 3 = 1 by kernel_rfl] at g0 g1 g3 g4
  rw [show Tryd.prog.cellsOf 43 = 4 by kernel_rfl] at g2
  have l5 : xs.length = 5 := hxl
  rw [List.getElem?_eq_getElem (by omega)] at g0 g1 g2 g3 g4
  match c, hc with
  | [u0, u1, u2, u3, u4, u5, u6, u7], _ =>
    simp only [List.drop_zero, List.drop_succ_cons, List.take_succ_cons, List.take_zero] at g0 g1 g2 g3 g4
    obtain ⟨m0, q0, w0⟩ := one_int64 g0
    obtain ⟨m1, q1, w1⟩ := one_int64 g1
    obtain ⟨m3, q3, w3⟩ := one_int64 g3
    obtain ⟨m4, q4, w4⟩ := one_int64 g4
    obtain ⟨ys, _, _, _, _, hyl, hi⟩ := DataW.trod_array Tryd.underlying43 g2
    have f0 := hi 0 (by omega); have f1 := hi 1 (by omega); have f2 := hi 2 (by omega); have f3 := hi 3 (by omega)
    rw [show Tryd.prog.cellsOf 21 = 1 by kernel_rfl] at f0 f1 f2 f3
    rw [List.getElem?_eq_getElem (by omega)] at f0 f1 f2 f3
    simp only [Nat.mul_one, List.drop_succ_cons, List.drop_zero, List.take_succ_cons, List.take_zero] at f0 f1 f2 f3
    obtain ⟨n0, e0, z0⟩ := one_int32 f0
    obtain ⟨n1, e1, z1⟩ := one_int32 f1
    obtain ⟨n2, e2, z2⟩ := one_int32 f2
    obtain ⟨n3, e3, z3⟩ := one_int32 f3
    cases q0; cases q1; cases q3; cases q4; cases e0; cases e1; cases e2; cases e3
    exact ⟨⟨m0, m1, ⟨n0, n1, n2, n3⟩, m3, m4⟩, rfl, z0, z1, z2, z3⟩
/-- A row of programs among the arguments. -/
theorem open_progs {v : Value} {d : DataW H} {ps : List MemPlace} (hv : Value.okWide Tryd.prog w r b0 25 v) (h : DataW.Trod enc Tryd.prog w base spare held 25 v d ps) :
    ∃ A l cap, v = .slice A (l : List PR).length cap ∧ ∀ i q, l[i]? = some q → ∃ b off, A = some ⟨b, off, none⟩ ∧ b < w.heap.size ∧ w.cell? ⟨b, off + i * 2, none⟩ = some (.int .i64 q.prio) ∧ w.cell? ⟨b, off + i * 2 + 1, none⟩ = some (.slice q.A q.l.length q.cap) ∧ InsIn w q.A q.l := by
  obtain ⟨fuel, hf⟩ := h
  obtain ⟨A, l, cap, hc, _, hl⟩ := open_rows (α := PR) (n := 2) Tryd.underlying25 (by kernel_rfl) (by decide) (fun q => [.int .i64 q.prio, .slice q.A q.l.length q.cap]) (fun q => InsIn w q.A q.l) ⟨0, none, [], 0⟩ (fun m c d ps hc h => one_pr hc h) hf
  refine ⟨A, l, cap, slice_of_cells Tryd.underlying25 hv hc, fun i q hq => ?_⟩
  obtain ⟨hI, b, off, e, hb, hcell⟩ := hl i q hq
  exact ⟨b, off, e, hb, hcell 0 _ rfl, hcell 1 _ rfl, hI⟩
/-- A row of events among the arguments. -/
theorem open_evs {v : Value} {d : DataW H} {ps : List MemPlace} (hv : Value.okWide Tryd.prog w r b0 26 v) (h : DataW.Trod enc Tryd.prog w base spare held 26 v d ps) :
    ∃ A l cap, v = .slice A (l : List EvP).length cap ∧ l.length ≤ cap ∧ EvIn w A l := by
  obtain ⟨fuel, hf⟩ := h
  obtain ⟨A, l, cap, hc, hcap, hl⟩ := open_rows (α := EvP) (n := 5) Tryd.underlying26 (by kernel_rfl) (by decide) evC EvP.Ok ⟨0, 0, 0, 0, 0⟩ (fun m c d ps hc h => one_ev hc h) hf
  refine ⟨A, l, cap, slice_of_cells Tryd.underlying26 hv hc, hcap, fun i e he => ?_⟩
  obtain ⟨hok, b, off, ea, hb, hcell⟩ := hl i e he
  exact ⟨hok, b, off, ea, hb, hcell 0 _ rfl, hcell 1 _ rfl, hcell 2 _ rfl, hcell 3 _ rfl, hcell 4 _ rfl⟩
theorem gnd_of {A : Option Addr} {l : List PR} (hT : Tabs w) (h : ∀ i q, l[i]? = some q → ∃ b off, A = some ⟨b, off, none⟩ ∧ b < w.heap.size ∧ w.cell? ⟨b, off + i * 2, none⟩ = some (.int .i64 q.prio) ∧ w.cell? ⟨b, off + i * 2 + 1, none⟩ = some (.slice q.A q.l.length q.cap) ∧ InsIn w q.A q.l) : Gnd w w.heap.size A l where
  tabs := hT
  g := hT.size
  le := Nat.le_refl _
  ps i q hq := by
    obtain ⟨b, off, e, hb, c0, c1, hI⟩ := h i q hq
    refine ⟨b, off, e, hb, c0, c1, hI, fun hne a ha => ?_⟩
    obtain ⟨x, hx⟩ : ∃ x, q.l[0]? = some x := ⟨_, List.getElem?_eq_getElem (List.length_pos_iff.2 hne)⟩
    obtain ⟨-, b', off', e', hlt, -⟩ := hI 0 x hx
    rw [ha] at e'
    obtain rfl := Option.some.inj e'
    exact hlt
end
end Go.Proofs.YtilaalleiiakoaaDoor
