/- An event's task, whatever the event; how a machine is handed back (layer 19). -/
import Derived.Test.YtilaalleiiakoaaDoorKi
import Derived.Test.YtilaalleiiakoaaDoorKk
import Derived.Test.YtilaalleiiakoaaDoorKl
import Derived.Laws.Tables
namespace Go.Proofs.YtilaalleiiakoaaDoor
open Go.RowKit
set_option maxRecDepth 100000

theorem turnTask_any {w : World} {B g cap : Nat} {O : Value} {ts : List FT} {ow : List Int} {i : Nat} {x : FT} {PA : Option Addr} {ps : List PR} (h : OwnF w B (.slice (some ⟨g, 0, none⟩) ts.length cap) O ts ow) (hx : ts[i]? = some x) (hl : ts.length ≤ 1000) (pcap : Nat) (hG : Gnd w B PA ps) (p : Nat → Bool) (t kd cpu a b : Int) :
    Calls Tryd.prog 42 #[flV (.slice (some ⟨g, 0, none⟩) ts.length cap) O p t, .slice PA ps.length pcap, evV ⟨kd, i, cpu, a, b⟩] w (TaskG w B g cap O ts ow i (taskP ⟨ts, p, ow, t⟩ ps ⟨kd, i, cpu, a, b⟩ x)) := by
  by_cases h2 : kd = 2
  · subst h2; exact tt_2 h hx hl pcap p t cpu a b
  by_cases h3 : kd = 3
  · subst h3; exact tt_3 h hx pcap hG p t cpu a b
  by_cases h4 : kd = 4
  · subst h4; exact tt_4 h hx pcap p t cpu a b
  by_cases h5 : kd = 5
  · subst h5; exact tt_5 h hx pcap p t cpu a b
  by_cases h6 : kd = 6
  · subst h6; exact tt_6 h hx pcap p t cpu a b
  by_cases h7 : kd = 7
  · subst h7; exact tt_7 h hx pcap p t cpu a b
  by_cases h8 : kd = 8
  · subst h8; exact tt_8 h hx pcap p t cpu a b
  by_cases h11 : kd = 11
  · subst h11; exact tt_11 h hx pcap p t cpu a b
  by_cases h12 : kd = 12
  · subst h12; exact tt_12 h hx pcap p t cpu a b
  by_cases h13 : kd = 13
  · subst h13; exact tt_13 h hx pcap p t cpu a b
  by_cases h21 : kd = 21
  · subst h21; exact tt_21 h hx pcap p t cpu a b
  exact tt_none h hx pcap p t kd cpu a b ⟨h2, h3, h4, h5, h6, h7, h8, h11, h12, h13, h21⟩
/-- What handing back a machine says: its value, whether the event may be, its rows. -/
def FlG (w : World) (B : Nat) (F O : Value) (f : Fl) (R : Option Fl) (e : Ending) (w' : World) : Prop :=
  ∃ F', e = .returned (.tuple #[flV F' O (R.getD f).p (R.getD f).tm, .bool R.isSome]) ∧ OwnF w' B F' O (R.getD f).ts (R.getD f).ow ∧ But (OwnB F O) w w' ∧ ∀ k, F'.ownBlock = some k → F.ownBlock = some k ∨ w.heap.size ≤ k
theorem under30 : Tryd.prog.underlying 30 = some (.struct #[⟨"Tasks", 27, 0, false, "", "", 0⟩, ⟨"Online", 24, 1, false, "", "", 24⟩, ⟨"Owners", 28, 17, false, "", "", 152⟩, ⟨"Time", 3, 18, false, "", "", 176⟩]) := Tryd.underlying30
section
variable {F O : Value} {p : Nat → Bool} {t : Int} {w : World}
theorem flL_one (hF : F.oneCell' = true) (hO : O.oneCell' = true) : (flL F O p t).toArray.all (·.oneCell') = true := by
  refine all_oneCell_toArray fun v hv => ?_
  unfold flL at hv
  simp only [List.mem_cons, List.mem_append, List.not_mem_nil, or_false] at hv
  rcases hv with rfl | hv | rfl | rfl
  · exact hF
  · exact Array.all_eq_true_iff_forall_mem.1 (cellsOf_one p) v (by simpa using hv)
  · exact hO
  · rfl
theorem run_load_flat {g : Nat} (hb : BF w g F O p t) : (loadVar 30 ⟨g, 0, none⟩).run Tryd.prog w = .ok (flV F O p t) w :=
  run_loadVar_row w g 30 30 _ (0, 0) _ hb under30 rfl (by rw [infoFlat, List.size_toArray, flL_len])
theorem ret_flat2 {fn : Func} {R : Ending → World → Prop} {a : Act} {r u : Tmp} (h : fn.results = #[.cell r 30, .tmp u]) (g : Nat) (hp : a.tmps.getD r undef = .pointer (some ⟨g, 0, none⟩)) (hb : BF w g F O p t) (hd : a.defers = [])
    (hR : R (.returned (.tuple #[flV F O p t, a.tmps.getD u undef])) w) : bodyPost Tryd.prog fn R .ret a w := by
  refine bodyPost_ret ?_ hd hR
  have hp' : a.tmps[r]?.getD undef = .pointer (some ⟨g, 0, none⟩) := by simpa using hp
  simp [results, h, hp', asAddr, run_load_flat hb, Result.andThen]
theorem ret_flat1 {fn : Func} {R : Ending → World → Prop} {a : Act} {r : Tmp} (h : fn.results = #[.cell r 30]) (g : Nat) (hp : a.tmps.getD r undef = .pointer (some ⟨g, 0, none⟩)) (hb : BF w g F O p t) (hd : a.defers = [])
    (hR : R (.returned (flV F O p t)) w) : bodyPost Tryd.prog fn R .ret a w := by
  refine bodyPost_ret ?_ hd hR
  have hp' : a.tmps[r]?.getD undef = .pointer (some ⟨g, 0, none⟩) := by simpa using hp
  simp [results, h, hp', asAddr, run_load_flat hb]
/-- A machine is stored whole. -/
theorem st_flat {ops : Array Oper} {rest : List Oper} {o : Oper} {a : Act} {Q : Exit → Act → World → Prop} (hgd : o.guard = none) (x y : Operand) (ho : o.op = .store 30 x y)
    (g : Nat) (hx : a.eval x = .pointer (some ⟨g, 0, none⟩)) (hy : a.eval y = flV F O p t) (hF : F.oneCell' = true) (hO : O.oneCell' = true) (old : Array Value) (hg : Blk w g 30 old) (hold : old.size = 19)
    (h : wpList Tryd.prog ops Q rest (a.put o.dst undef) (w.setRow g (flL F O p t).toArray)) : wpList Tryd.prog ops Q (o :: rest) a w :=
  wpList_store_row hgd 30 x y ho g _ hx hy 30 old hg (by rw [infoFlat, List.size_toArray, flL_len]) (by rw [hold, List.size_toArray, flL_len]) (flL_one hF hO) h
/-- A machine is read whole. -/
theorem ld_flat {ops : Array Oper} {rest : List Oper} {o : Oper} {a : Act} {Q : Exit → Act → World → Prop} (hgd : o.guard = none) (x : Operand) (ho : o.op = .load 30 x)
    (g : Nat) (hx : a.eval x = .pointer (some ⟨g, 0, none⟩)) (hb : BF w g F O p t) (h : wpList Tryd.prog ops Q rest (a.put o.dst (flV F O p t)) w) : wpList Tryd.prog ops Q (o :: rest) a w :=
  wpList_load_mid hgd 30 x ho g 0 hx (flL F O p t) _ hb.all under30 rfl (by rw [infoFlat, flL_len]) h
/-- Who is online is read. -/
theorem ld_on {ops : Array Oper} {rest : List Oper} {o : Oper} {a : Act} {Q : Exit → Act → World → Prop} (hgd : o.guard = none) (x : Operand) (ho : o.op = .load 24 x)
    (g : Nat) (hx : a.eval x = .pointer (some ⟨g, 1, none⟩)) (hb : BF w g F O p t) (h : wpList Tryd.prog ops Q rest (a.put o.dst (.agg (cellsOf p))) w) : wpList Tryd.prog ops Q (o :: rest) a w :=
  wpList_load_mid hgd 24 x ho g 1 hx (cellsOf p).toList _ hb.set underSet rfl (by rw [infoSetS]; simp [cellsOf]) (by rw [Array.toArray_toList]; exact h)
theorem But.row {X : Nat → Prop} {a w : World} (h : But X a w) (g : Nat) (cs : Array Value) (hg : X g ∨ a.heap.size ≤ g) : But X a (w.setRow g cs) :=
  ⟨h.os, h.tape, h.output, by simpa using h.size, fun k hk hn => (setRow_other w g k cs (by rintro rfl; rcases hg with hg | hg; exact hn hg; omega)).trans (h.block k hk hn)⟩
theorem BF.row {g : Nat} {old : Array Value} (h : Blk w g 30 old) : BF (w.setRow g (flL F O p t).toArray) g F O p t := setRow_heap w g old _ _ _ h
theorem Blk.row_other {g k : Nat} {ty : TypeId} {cs : Array Value} (h : Blk w k ty cs) (hk : k ≠ g) (zs : Array Value) : Blk (w.setRow g zs) k ty cs := (setRow_other w g k zs hk).trans h
def putAll : List Value → Nat → List Value → List Value
  | xs, _, [] => xs
  | xs, o, v :: r => putAll (xs.set o v) (o + 1) r
theorem putAll_cons : ∀ (vs : List Value) (z : Value) (r : List Value) (o : Nat), putAll (z :: r) (o + 1) vs = z :: putAll r o vs
  | [], _, _, _ => rfl
  | v :: vs, z, r, o => by
    unfold putAll
    rw [List.set_cons_succ]
    exact putAll_cons vs z _ (o + 1)
theorem putAll_here : ∀ (vs us r : List Value), us.length = vs.length → putAll (us ++ r) 0 vs = vs ++ r
  | [], [], r, _ => rfl
  | v :: vs, u :: us, r, h => by
    unfold putAll
    rw [List.cons_append, List.set_cons_zero, putAll_cons, putAll_here vs us r (by simpa using h)]; rfl
  | [], _ :: _, _, h => by cases h
  | _ :: _, [], _, h => by cases h
theorem blk_setCells : ∀ (vs : List Value) (o : Nat) (w : World) (g : Nat) (ty : TypeId) (cs : List Value), Blk w g ty cs.toArray → Blk (w.setCells g o vs) g ty (putAll cs o vs).toArray ∧ But (fun k => k = g) w (w.setCells g o vs)
  | [], _, w, _, _, _, h => ⟨h, But.refl _ _⟩
  | v :: r, o, w, g, ty, cs, h => by
    have h1 := h.set_ o v
    rw [List.setIfInBounds_toArray] at h1
    obtain ⟨h2, h3⟩ := blk_setCells r (o + 1) _ g ty _ h1
    exact ⟨h2, ((But.refl (fun k => k = g) w).set ⟨g, o, none⟩ v (.inl rfl)).trans h3⟩
theorem BF.online {g : Nat} (h : BF w g F O p t) (q : Nat → Bool) : BF (w.setCells g 1 (cellsOf q).toList) g F O q t ∧ But (fun k => k = g) w (w.setCells g 1 (cellsOf q).toList) := by
  obtain ⟨a, b⟩ := blk_setCells (cellsOf q).toList 1 w g 30 _ h
  refine ⟨?_, b⟩
  have e : putAll (flL F O p t) 1 (cellsOf q).toList = flL F O q t := by
    unfold flL
    rw [putAll_cons, putAll_here _ _ _ (by simp [cellsOf])]
  rw [e] at a
  exact a
/-- Who is online is stored. -/
theorem st_on {ops : Array Oper} {rest : List Oper} {o : Oper} {a : Act} {Q : Exit → Act → World → Prop} (hgd : o.guard = none) (x y : Operand) (ho : o.op = .store 24 x y) (q : Nat → Bool)
    (g : Nat) (hx : a.eval x = .pointer (some ⟨g, 1, none⟩)) (hy : a.eval y = .agg (cellsOf q)) (hb : BF w g F O p t) (h : wpList Tryd.prog ops Q rest (a.put o.dst undef) (w.setCells g 1 (cellsOf q).toList)) : wpList Tryd.prog ops Q (o :: rest) a w :=
  wpList_store_mid hgd 24 x y ho g 1 (cellsOf q) hx hy (fun j hj => by
    have hj16 : j < 16 := by simpa [cellsOf] using hj
    refine ⟨?_, hb.free _⟩
    rw [hb.set j ((cellsOf p).toList[j]'(by simpa [cellsOf] using hj16)) (List.getElem?_eq_getElem _)]; rfl) (by rw [infoSetS]; simp [cellsOf]) (cellsOf_one q) h
end
theorem OwnF.one {w : World} {B : Nat} {F O : Value} {ts : List FT} {ow : List Int} (h : OwnF w B F O ts ow) : F.oneCell' = true ∧ O.oneCell' = true := by
  constructor
  · rcases rowForm h.tk with ⟨rfl, -⟩ | ⟨g, cap, rfl⟩ <;> rfl
  · rcases rowForm h.ow with ⟨rfl, -⟩ | ⟨g, cap, rfl⟩ <;> rfl
end Go.Proofs.YtilaalleiiakoaaDoor
