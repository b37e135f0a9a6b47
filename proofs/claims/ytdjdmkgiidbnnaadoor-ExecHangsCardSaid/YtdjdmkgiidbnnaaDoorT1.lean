/- ExecHangs: the walk of hangs. -/
import Derived.Test.YtdjdmkgiidbnnaaDoorT0
import Derived.Deep.DeepCutAuto
namespace Go.Proofs.YtdjdmkgiidbnnaaDoor
open Go.RowKit

structure P3 (w W : World) (p : Int) (A : Option Addr) (n cap : Nat) (p' : Int) (A' : Option Addr) (n' cap' : Nat) (r : R4) : Prop where
  tabs : Tabs W
  below : Below w.heap.size w W
  p : Blk W w.heap.size 24 #[.int .i64 p, .slice A n cap]
  p' : Blk W (w.heap.size + 1) 24 #[.int .i64 p', .slice A' n' cap']
  q : Blk W (w.heap.size + 1 + 1) 25 #[.int .i32 r.a, .int .i32 r.b, .int .i32 r.c, .int .i32 r.d]
section
variable {w W W' : World} {p : Int} {A : Option Addr} {n cap : Nat} {p' : Int} {A' : Option Addr} {n' cap' : Nat} {r : R4}
theorem P3.new (hT : Tabs w) (p : Int) (A : Option Addr) (n cap : Nat) (p' : Int) (A' : Option Addr) (n' cap' : Nat) (r : R4) : P3 w (((w.alloc (.cells #[.int .i64 p, .slice A n cap] 24)).alloc (.cells #[.int .i64 p', .slice A' n' cap'] 24)).alloc (.cells #[.int .i32 r.a, .int .i32 r.b, .int .i32 r.c, .int .i32 r.d] 25)) p A n cap p' A' n' cap' r := by
  obtain ⟨b, hp, hq⟩ := two (w := w) (t := 24) (u := 24) (a := #[.int .i64 p, .slice A n cap]) (b := #[.int .i64 p', .slice A' n' cap'])
  have h3 := Blk.new ((w.alloc (.cells #[.int .i64 p, .slice A n cap] 24)).alloc (.cells #[.int .i64 p', .slice A' n' cap'] 24)) 25 #[.int .i32 r.a, .int .i32 r.b, .int .i32 r.c, .int .i32 r.d]
  simp only [World.size_alloc] at h3
  have b3 := b.alloc b.size (.cells #[.int .i32 r.a, .int .i32 r.b, .int .i32 r.c, .int .i32 r.d] 25)
  exact ⟨hT.on b3, b3, hp.alloc _, hq.alloc _, h3⟩
theorem P3.on (h : P3 w W p A n cap p' A' n' cap' r) (hb : Below W.heap.size W W') : P3 w W' p A n cap p' A' n' cap' r :=
  ⟨h.tabs.on hb, h.below.trans (hb.mono h.below.size), h.p.below hb h.p.lt, h.p'.below hb h.p'.lt, h.q.below hb h.q.lt⟩
theorem P3.low (hw : Tabs w) (h : P3 w W p A n cap p' A' n' cap' r) (hb : Below (w.heap.size + 1 + 1 + 1) W W') : P3 w W' p A n cap p' A' n' cap' r := by
  have b : Below w.heap.size w W' := h.below.trans (hb.mono (by omega))
  exact ⟨hw.on b, b, h.p.below hb (by omega), h.p'.below hb (by omega), h.q.below hb (by omega)⟩
theorem P3.drew (h : P3 w W p A n cap p' A' n' cap' r) : P3 w W.drew p A n cap p' A' n' cap' r := h.on ⟨rfl, rfl, rfl, Nat.le_refl _, fun _ _ => rfl⟩
theorem P3.cells (h : P3 w W p A n cap p' A' n' cap' r) :
    W.cell? ⟨w.heap.size, 0, none⟩ = some (.int .i64 p) ∧ W.cell? ⟨w.heap.size, 1, none⟩ = some (.slice A n cap) ∧ W.cell? ⟨w.heap.size + 1, 0, none⟩ = some (.int .i64 p') ∧ W.cell? ⟨w.heap.size + 1, 1, none⟩ = some (.slice A' n' cap') ∧
    W.cell? ⟨w.heap.size + 1 + 1, 0, none⟩ = some (.int .i32 r.a) ∧ W.cell? ⟨w.heap.size + 1 + 1, 1, none⟩ = some (.int .i32 r.b) ∧ W.cell? ⟨w.heap.size + 1 + 1, 2, none⟩ = some (.int .i32 r.c) ∧ W.cell? ⟨w.heap.size + 1 + 1, 3, none⟩ = some (.int .i32 r.d) ∧ w.heap.size + 1 + 1 < W.heap.size :=
  ⟨h.p.cell 0, h.p.cell 1, h.p'.cell 0, h.p'.cell 1, h.q.cell 0, h.q.cell 1, h.q.cell 2, h.q.cell 3, h.q.lt⟩
end
theorem OwnI.but' {B : Nat} {X : Nat → Prop} {v : Value} {l : List I4} {w w' : World} (h : OwnI B v l w) (hb : But X w w') (hX : ∀ g, v.ownBlock = some g → ¬ X g) : OwnI B v l w' := by
  refine ⟨h.1, ?_⟩
  rcases h.2 with hn | ⟨g, cap, cur, rfl, hbb, hgg, rest⟩
  · exact .inl hn
  · have hlt : g < w.heap.size := (Array.getElem?_eq_some_iff.1 hgg).1
    exact .inr ⟨g, cap, cur, rfl, hbb, (hb.block g hlt (hX g rfl)).trans hgg, rest⟩
theorem OwnI.ne {B : Nat} {v : Value} {l : List I4} {W : World} {R : Nat} {t : TypeId} {cs : Array Value} (h : OwnI B v l W) (hb : Blk W R t cs) (ht : t ≠ 51) : v.ownBlock ≠ some R := by
  rcases h.2 with ⟨rfl, _⟩ | ⟨g, cap, cur, rfl, hbb, hgg, rest⟩
  · simp [Value.ownBlock]
  · intro e
    have e' : g = R := by simpa [Value.ownBlock] using e
    subst e'
    have := hgg.symm.trans hb
    simp only [Option.some.injEq, Obj.cells.injEq] at this
    exact ht this.2.1.symm
/-- The program that was put together. -/
structure XP (w : World) (B : Nat) (p : Int) (A : Option Addr) (n cap : Nat) (p' : Int) (A' : Option Addr) (n' cap' : Nat) (r : R4) (xs : List I4) (G g cp : Nat) (W : World) : Prop where
  three : P3 w W p A n cap p' A' n' cap' r
  x : Blk W G 24 #[.int .i64 p', .slice (some ⟨g, 0, none⟩) n cp]
  own : OwnI B (.slice (some ⟨g, 0, none⟩) n cp) xs W
  le : n ≤ cp
  lt : w.heap.size + 1 + 1 < B ∧ B ≤ G
section
variable {w W W' : World} {B : Nat} {p : Int} {A : Option Addr} {n cap : Nat} {p' : Int} {A' : Option Addr} {n' cap' : Nat} {r : R4} {xs : List I4} {G g cp : Nat}
theorem P3.but {X : Nat → Prop} (hw : Tabs w) (h : P3 w W p A n cap p' A' n' cap' r) (hb : But X W W') (hX : ∀ k, k ≤ w.heap.size + 1 + 1 → ¬ X k) : P3 w W' p A n cap p' A' n' cap' r := by
  have b : Below w.heap.size w W' := h.below.trans (hb.below h.below.size (fun k _ hk => by
    by_cases q : w.heap.size ≤ k
    · exact q
    · exact absurd hk (hX k (by omega))))
  exact ⟨hw.on b, b, h.p.but hb (hX _ (by omega)), h.p'.but hb (hX _ (by omega)), h.q.but hb (hX _ (by omega))⟩
theorem XP.new (h3 : P3 w W p A n cap p' A' n' cap' r) (ho : OwnI B (.slice (some ⟨g, 0, none⟩) n cp) xs W) (hc : n ≤ cp) (h1 : w.heap.size + 1 + 1 < B) (h2 : B ≤ W.heap.size) :
    XP w B p A n cap p' A' n' cap' r xs W.heap.size g cp (W.alloc (.cells #[.int .i64 p', .slice (some ⟨g, 0, none⟩) n cp] 24)) :=
  ⟨h3.on ((Below.refl _ _).alloc (Nat.le_refl _) _), Blk.new _ _ _, World.ownsRow.alloc ho _, hc, h1, h2⟩
theorem XP.set (hw : Tabs w) (h3 : P3 w W p A n cap p' A' n' cap' r) (ho : OwnI B (.slice (some ⟨g, 0, none⟩) n cp) xs W) (hc : n ≤ cp) (h1 : w.heap.size + 1 + 1 < B) (h2 : B ≤ G) (hb : Blk W G 24 #[.int .i64 0, .slice none 0 0]) :
    XP w B p A n cap p' A' n' cap' r xs G g cp ((W.setCell ⟨G, 0, none⟩ (.int .i64 p')).setCell ⟨G, 1, none⟩ (.slice (some ⟨g, 0, none⟩) n cp)) := by
  have hbut : But (fun k => k = G) W ((W.setCell ⟨G, 0, none⟩ (.int .i64 p')).setCell ⟨G, 1, none⟩ (.slice (some ⟨g, 0, none⟩) n cp)) := by
    have q1 := (But.refl (fun k => k = G) W).set ⟨G, 0, none⟩ (.int .i64 p') (.inl rfl)
    exact q1.set ⟨G, 1, none⟩ (.slice (some ⟨g, 0, none⟩) n cp) (.inl rfl)
  exact ⟨h3.but hw hbut (fun k hk => by omega), (hb.set_ 0 _).set_ 1 _, ho.but' hbut (fun k hk x => ho.ne hb (by decide) (by rw [hk, x])), hc, h1, h2⟩
theorem XP.on (h : XP w B p A n cap p' A' n' cap' r xs G g cp W) (hb : Below W.heap.size W W') : XP w B p A n cap p' A' n' cap' r xs G g cp W' :=
  ⟨h.three.on hb, h.x.below hb h.x.lt, h.own.but' (But.of_below (X := Nob) hb) (fun _ _ q => q), h.le, h.lt⟩
theorem XP.drew (h : XP w B p A n cap p' A' n' cap' r xs G g cp W) : XP w B p A n cap p' A' n' cap' r xs G g cp W.drew := h.on ⟨rfl, rfl, rfl, Nat.le_refl _, fun _ _ => rfl⟩
theorem XP.ins (h : XP w B p A n cap p' A' n' cap' r xs G g cp W) (hn : xs.length = n) (hf : ∀ x ∈ xs, Fits x) : InsIn W (some ⟨g, 0, none⟩) xs := by
  subst hn; exact ownI_in h.own hf
theorem XP.put (hw : Tabs w) (h : XP w B p A n cap p' A' n' cap' r xs G g cp W) (hn : xs.length = n) (k : Nat) (x : I4) (hk : k < n) :
    XP w B p A n cap p' A' n' cap' r (xs.set k x) G g cp ((((W.setCell ⟨g, k * 4, none⟩ (.int .i64 x.op)).setCell ⟨g, k * 4 + 1, none⟩ (.int .i64 x.a)).setCell ⟨g, k * 4 + 2, none⟩ (.int .i64 x.b)).setCell ⟨g, k * 4 + 3, none⟩ (.int .i32 x.n)) := by
  subst hn
  have hbut : But (fun j => j = g) W ((((W.setCell ⟨g, k * 4, none⟩ (.int .i64 x.op)).setCell ⟨g, k * 4 + 1, none⟩ (.int .i64 x.a)).setCell ⟨g, k * 4 + 2, none⟩ (.int .i64 x.b)).setCell ⟨g, k * 4 + 3, none⟩ (.int .i32 x.n)) := by
    have q1 := (But.refl (fun j => j = g) W).set ⟨g, k * 4, none⟩ (.int .i64 x.op) (.inl rfl)
    have q2 := q1.set ⟨g, k * 4 + 1, none⟩ (.int .i64 x.a) (.inl rfl)
    have q3 := q2.set ⟨g, k * 4 + 2, none⟩ (.int .i64 x.b) (.inl rfl)
    exact q3.set ⟨g, k * 4 + 3, none⟩ (.int .i32 x.n) (.inl rfl)
  have hg := (h.own.lt g rfl).1
  have hne : G ≠ g := fun e => h.own.ne h.x (by decide) (by rw [e]; rfl)
  have hl := h.lt
  have ho := ownI_put h.own k x hk
  rw [List.length_set] at ho
  exact ⟨h.three.but hw hbut (fun j hj => by omega), h.x.but hbut hne, ho, h.le, h.lt⟩
end
set_option maxRecDepth 100000 in
set_option maxHeartbeats 8000000 in
theorem hangs_fine (p p' : Int) (A A' : Option Addr) (l m : List I4) (cap cap' at' : Nat) (r : R4) (w : World) (hT : Tabs w) (hI : InsIn w A l) (hJ : InsIn w A' m) (hat : at' < 18446744073709551616) (hf : Fine p l) (hlm : m.length = l.length) :
    Calls Tryd.prog 15 #[.agg #[.int .i64 p, .slice A l.length cap], .agg #[.int .i64 p', .slice A' m.length cap'], .int .u64 at', regV r] w (GotB w.heap.size (.bool true) w) := by
  have P1 := P3.new hT p A l.length cap p' A' m.length cap' r
  have HC := refCheck_any p A l cap _ (hI.below P1.below)
  unfold CheckP at HC
  rw [hf.ok] at HC
  have HC := Lib.hid HC; have P1 := Lib.hid P1
  have HLT : Hid (∀ W, Calls Tryd.prog 8 #[.agg #[.int .i64 p, .slice A l.length cap]] W (GotB W.heap.size (.bool true) W)) := fun W => by
    have := light_any p A l.length cap W; rwa [decide_eq_true (by have := hf.len; omega)] at this
  have HLT' : Hid (∀ W, Calls Tryd.prog 8 #[.agg #[.int .i64 p', .slice A' m.length cap']] W (GotB W.heap.size (.bool true) W)) := fun W => by
    have := light_any p' A' m.length cap' W; rwa [decide_eq_true (by have := hf.len; omega)] at this
  obtain ⟨N, hN⟩ : ∃ N, l.length = N := ⟨_, rfl⟩
  have hlen := hf.len
  rw [hN] at hlm hlen
  rw [hN, hlm] at P1 ⊢
  rw [hlm] at HLT'
  rw [hN] at HLT HC
  rw [hlm] at HC
  have HN := Lib.hid hN; have HM := Lib.hid hlm; have HT := Lib.hid hT; have HI := Lib.hid hI; have HJ := Lib.hid hJ; have HF := Lib.hid hf
  clear hN hlm hT hI hJ hf
  obtain ⟨x0, x1, x2, x3, x4, x5, x6, x7, x8⟩ := P1.out.cells
  go_enter Tryd.func15, Tryd.ntmps15
  go_wp2_with fail
  refine HC.out.mono ?_
  rintro e w2 ⟨rfl, h2⟩
  have Q2 := Lib.hid (P1.out.on h2)
  clear h2 x0 x1 x2 x3 x4 x5 x6 x7 x8 HC P1
  obtain ⟨x0, x1, x2, x3, x4, x5, x6, x7, x8⟩ := Q2.out.cells
  go_wp2_with fail
  refine (HLT.out _).mono ?_
  rintro e w3 ⟨rfl, h3⟩
  have Q3 := Lib.hid (Q2.out.on h3)
  clear h3 x0 x1 x2 x3 x4 x5 x6 x7 x8 HLT Q2
  obtain ⟨x0, x1, x2, x3, x4, x5, x6, x7, x8⟩ := Q3.out.cells
  go_wp2_with fail
  refine (HLT'.out _).mono ?_
  rintro e w4 ⟨rfl, h4⟩
  have Q4 := Lib.hid (Q3.out.on h4)
  clear h4 x0 x1 x2 x3 x4 x5 x6 x7 x8 HLT' Q3
  obtain ⟨x0, x1, x2, x3, x4, x5, x6, x7, x8⟩ := Q4.out.cells
  go_upto_region 5 with fail
  have hs4 := x8
  have hk : wrap64 ((at' : Int) % (N : Int)) = ((at' % N : Nat) : Int) := by
    have h1 : at' % N < N := Nat.mod_lt _ (by omega)
    rw [show ((at' : Int) % (N : Int)) = ((at' % N : Nat) : Int) from rfl]
    unfold wrap64; omega
  have hkN : at' % N < N := Nat.mod_lt _ (by omega)
  rw [hk]
  generalize at' % N = k at *
  clear hk hat
  go_cut [12] (fun tv wx => ∃ G g cp, tv = .pointer (some ⟨G, 0, none⟩) ∧ XP w w4.heap.size p A N cap p' A' N cap' r m G g cp wx)
  case first =>
    have hA : OwnI w4.heap.size (.slice (some ⟨w4.heap.size, 0, none⟩) 0 0) [] (w4.alloc (.cells #[] 51)).drew := (ownI_lit w4).drew
    have hB : OwnI w4.heap.size (.slice (some ⟨w4.heap.size, 0, none⟩) 0 0) [] ((w4.alloc (.cells #[] 51)).alloc (.cells #[.int .i64 0, .slice none 0 0] 24)).drew := (World.ownsRow.alloc (ownI_lit w4) _ : OwnI _ _ _ _).drew
    have hC : OwnI w4.heap.size (.slice (some ⟨w4.heap.size + 1, 0, none⟩) 0 0) [] ((w4.alloc (.cells #[.int .i64 0, .slice none 0 0] 24)).alloc (.cells #[] 51)).drew := by
      have := ownI_lit (w4.alloc (.cells #[.int .i64 0, .slice none 0 0] 24))
      rw [World.size_alloc] at this
      exact (this.less (by omega)).drew
    have bA : Below w4.heap.size w4 (w4.alloc (.cells #[] 51)).drew := ((Below.refl _ _).alloc (Nat.le_refl _) _).drew
    have bB : Below w4.heap.size w4 ((w4.alloc (.cells #[] 51)).alloc (.cells #[.int .i64 0, .slice none 0 0] 24)).drew := (((Below.refl _ _).alloc (Nat.le_refl _) _).alloc (by simp) _).drew
    have bC : Below w4.heap.size w4 ((w4.alloc (.cells #[.int .i64 0, .slice none 0 0] 24)).alloc (.cells #[] 51)).drew := (((Below.refl _ _).alloc (Nat.le_refl _) _).alloc (by simp) _).drew
    have HA := Lib.hid hA; have HB := Lib.hid hB; have HC' := Lib.hid hC
    have BA := Lib.hid bA; have BB := Lib.hid bB; have BC := Lib.hid bC
    have HJ4 := Lib.hid (HJ.out.below Q4.out.below)
    clear hA hB hC bA bB bC
    have a1 : P3 w (w4.alloc (.cells #[] 51)) p A N cap p' A' N cap' r := Q4.out.on ((Below.refl _ _).alloc (Nat.le_refl _) _)
    have a2 : P3 w ((w4.alloc (.cells #[] 51)).alloc (.cells #[.int .i64 0, .slice none 0 0] 24)) p A N cap p' A' N cap' r := a1.on ((Below.refl _ _).alloc (Nat.le_refl _) _)
    have a3 : P3 w (w4.alloc (.cells #[.int .i64 0, .slice none 0 0] 24)) p A N cap p' A' N cap' r := Q4.out.on ((Below.refl _ _).alloc (Nat.le_refl _) _)
    have a4 : P3 w ((w4.alloc (.cells #[.int .i64 0, .slice none 0 0] 24)).alloc (.cells #[] 51)) p A N cap p' A' N cap' r := a3.on ((Below.refl _ _).alloc (Nat.le_refl _) _)
    have kb := Blk.new (w4.alloc (.cells #[] 51)) 24 #[.int .i64 0, .slice none 0 0]
    rw [World.size_alloc] at kb
    have KB := Lib.hid kb.drewS
    have KC := Lib.hid ((Blk.new w4 24 #[.int .i64 0, .slice none 0 0]).alloc (.cells #[] 51)).drewS
    have KBL : Hid (w4.heap.size + 1 < ((w4.alloc (.cells #[] 51)).alloc (.cells #[.int .i64 0, .slice none 0 0] 24)).drew.heap.size) := kb.drewS.lt
    have KCL : Hid (w4.heap.size < ((w4.alloc (.cells #[.int .i64 0, .slice none 0 0] 24)).alloc (.cells #[] 51)).drew.heap.size) := KC.out.lt
    clear kb
    have HA2 := Lib.hid a1.drew; have HA3 := Lib.hid a2.drew; have HA4 := Lib.hid a4.drew
    obtain ⟨-, -, u0, u1, -⟩ := a1.cells
    obtain ⟨-, -, u2, u3, -⟩ := a2.cells
    obtain ⟨-, -, u4, u5, -⟩ := a3.cells
    obtain ⟨-, -, u6, u7, -⟩ := a4.cells
    clear a1 a2 a3 a4
    go_region_law (first
      | (refine step_app_prog rfl (.tmp 56) (.tmp 58) rfl w4.heap.size _ (by rfl) HA.out A' m cap' N HM.out (by rfl) (HJ4.out.below BA.out) (by rw [HM.out]; omega) (by rw [HM.out]; omega) BA.out.size ?_; intro v5 w5 h5; obtain ⟨⟨g5, c5, rfl, hc5, ho5⟩, hb5, hg5⟩ := h5; have H5 := Lib.hid ho5; have HB5 := Lib.hid hb5; have HG5 := Lib.hid hg5; have Q5 := Lib.hid (HA2.out.low HT.out (hb5.mono (by omega))); clear ho5 hb5 hg5; obtain ⟨-, -, m0, m1, -⟩ := Q5.out.cells; obtain ⟨-, -, m2, m3, -⟩ := (Q5.out.on ((Below.refl _ _).alloc (Nat.le_refl _) (.cells #[.int .i64 0, .slice none 0 0] 24))).cells)
      | (refine step_app_prog rfl (.tmp 56) (.tmp 58) rfl w4.heap.size _ (by rfl) HB.out A' m cap' N HM.out (by rfl) (HJ4.out.below BB.out) (by rw [HM.out]; omega) (by rw [HM.out]; omega) BB.out.size ?_; intro v5 w5 h5; obtain ⟨⟨g5, c5, rfl, hc5, ho5⟩, hb5, hg5⟩ := h5; have H5 := Lib.hid ho5; have HB5 := Lib.hid hb5; have HG5 := Lib.hid hg5; have hk5 : Blk w5 (w4.heap.size + 1) 24 #[.int .i64 0, .slice none 0 0] := (hg5.block _ KBL.out (by simp [Value.ownBlock])).trans KB.out; have HK5 := Lib.hid hk5; have n0 := hk5.cell 0; have n1 := hk5.cell 1; have nf : ∀ i, w5.frozen? ⟨w4.heap.size + 1, i, none⟩ = false := fun i => hk5.free i; simp only [List.getElem?_toArray, List.getElem?_cons_zero, List.getElem?_cons_succ] at n0 n1; clear hk5; have Q5 := Lib.hid (HA3.out.low HT.out (hb5.mono (by omega))); clear ho5 hb5 hg5; obtain ⟨-, -, m0, m1, -⟩ := Q5.out.cells; obtain ⟨-, -, m2, m3, -⟩ := (Q5.out.on ((Below.refl _ _).alloc (Nat.le_refl _) (.cells #[.int .i64 0, .slice none 0 0] 24))).cells)
      | (refine step_app_prog rfl (.tmp 56) (.tmp 58) rfl w4.heap.size _ (by rfl) HC'.out A' m cap' N HM.out (by rfl) (HJ4.out.below BC.out) (by rw [HM.out]; omega) (by rw [HM.out]; omega) BC.out.size ?_; intro v5 w5 h5; obtain ⟨⟨g5, c5, rfl, hc5, ho5⟩, hb5, hg5⟩ := h5; have H5 := Lib.hid ho5; have HB5 := Lib.hid hb5; have HG5 := Lib.hid hg5; have hk5 : Blk w5 (w4.heap.size) 24 #[.int .i64 0, .slice none 0 0] := (hg5.block _ KCL.out (by simp [Value.ownBlock])).trans KC.out; have HK5 := Lib.hid hk5; have n0 := hk5.cell 0; have n1 := hk5.cell 1; have nf : ∀ i, w5.frozen? ⟨w4.heap.size, i, none⟩ = false := fun i => hk5.free i; simp only [List.getElem?_toArray, List.getElem?_cons_zero, List.getElem?_cons_succ] at n0 n1; clear hk5; have Q5 := Lib.hid (HA4.out.low HT.out (hb5.mono (by omega))); clear ho5 hb5 hg5; obtain ⟨-, -, m0, m1, -⟩ := Q5.out.cells; obtain ⟨-, -, m2, m3, -⟩ := (Q5.out.on ((Below.refl _ _).alloc (Nat.le_refl _) (.cells #[.int .i64 0, .slice none 0 0] 24))).cells))
    all_goals
      go_wp2_with fail
      go_meet
      first
        | exact ⟨w5.heap.size, g5, c5, rfl, XP.new Q5.out H5.out hc5 hs4 (Nat.le_trans BA.out.size HB5.out.size)⟩
        | exact ⟨w4.heap.size + 1, g5, c5, rfl, XP.set HT.out Q5.out H5.out hc5 hs4 (by omega) HK5.out⟩
        | exact ⟨w4.heap.size, g5, c5, rfl, XP.set HT.out Q5.out H5.out hc5 hs4 (by omega) HK5.out⟩
  case rest =>
    obtain ⟨G, g, cp, rfl, hX⟩ := hcut
    clear Q4 x0 x1 x2 x3 x4 x5 x6 x7 x8 hs4
    generalize wc = W5 at *
    generalize w4.heap.size = B at *
    have HX := Lib.hid hX
    clear hX
    obtain ⟨x, hx⟩ : ∃ x, l[k]? = some x := ⟨_, List.getElem?_eq_getElem (by rw [HN.out]; exact hkN)⟩
    have HL := Lib.hid hx
    have hX' := HX.out
    obtain ⟨fx, bb, off, rfl, -, c0, c1, c2, c3⟩ := (HI.out.below hX'.three.below) k x hx
    have HFX := Lib.hid fx
    obtain ⟨x0, x1, -⟩ := hX'.three.cells
    have y0 := hX'.x.cell 0; have y1 := hX'.x.cell 1
    simp only [List.getElem?_toArray, List.getElem?_cons_zero, List.getElem?_cons_succ] at y0 y1
    have htot : ∀ j, j < 4 → ∃ u, W5.cell? ⟨g, k * 4 + j, none⟩ = some u := fun j hj => by
      have ho := hX'.own
      unfold OwnI at ho
      rw [HM.out] at ho
      have hc := ho.cellAt (k * 4 + j) (by omega)
      have hlen : k * 4 + j < (m.flatMap insC).length := by rw [flat_len, HM.out]; omega
      exact ⟨_, hc.trans (List.getElem?_eq_getElem hlen)⟩
    have hfr : ∀ j, W5.frozen? ⟨g, j, none⟩ = false := fun j => by
      have ho := hX'.own
      unfold OwnI at ho
      rw [HM.out] at ho
      exact ho.frozenAt j
    obtain ⟨t0, g0⟩ := htot 0 (by omega); obtain ⟨t1, g1⟩ := htot 1 (by omega); obtain ⟨t2, g2⟩ := htot 2 (by omega); obtain ⟨t3, g3⟩ := htot 3 (by omega)
    rw [Nat.add_zero] at g0
    have hcp := hX'.le
    have hP := hX'.put HT.out HM.out k x hkN
    have HP := Lib.hid hP
    have k0 : (0 : Int) ≤ (k : Int) := by omega
    have k1 : (k : Int) < (N : Int) := by omega
    obtain ⟨xo, xa, xb, xn⟩ := x
    dsimp only at c0 c1 c2 c3 HP
    clear hX' htot fx hx hP
    go_upto_region 6 with fail
    go_cut [] (fun wx => XP w B p (some ⟨bb, off, none⟩) N cap p' A' N cap' r (m.set k ⟨xo, xa, xb, xn⟩) G g cp wx)
    case first =>
      go_region
      all_goals go_wp2
      all_goals go_meet
      all_goals first | exact HP.out.drew | exact HP.out
    case rest =>
      have HX6 := Lib.hid hcut
      clear hcut HX HP x0 x1 y0 y1 hfr t0 t1 t2 t3 g0 g1 g2 g3 c0 c1 c2 c3 hcp
      generalize wc = W6 at *
      have hm2 : (m.set k ⟨xo, xa, xb, xn⟩).length = N := by rw [List.length_set, HM.out]
      have hfit : ∀ y ∈ m.set k ⟨xo, xa, xb, xn⟩, Fits y := fun y hy => by
        rcases List.mem_or_eq_of_mem_set hy with h | h
        · obtain ⟨i, hi⟩ := List.getElem?_of_mem h
          exact (HJ.out i y hi).1
        · rw [h]; exact HFX.out
      have hxk : (m.set k ⟨xo, xa, xb, xn⟩)[k]? = some ⟨xo, xa, xb, xn⟩ := by rw [List.getElem?_set]; simp [HM.out, hkN]
      obtain ⟨l', hl'⟩ : ∃ l', m.set k ⟨xo, xa, xb, xn⟩ = l' := ⟨_, rfl⟩
      rw [hl'] at HX6 hm2 hfit hxk
      clear hl'
      have HIX : Hid (∀ W, XP w B p (some ⟨bb, off, none⟩) N cap p' A' N cap' r l' G g cp W → InsIn W (some ⟨g, 0, none⟩) l') := fun W h => h.ins hm2 hfit
      have HM2 := Lib.hid hm2; have HXK := Lib.hid hxk
      have HC6 := refCheck_any p' (some ⟨g, 0, none⟩) l' cp W6 (HIX.out W6 HX6.out)
      unfold CheckP at HC6
      rw [hm2] at HC6
      have HC6 := Lib.hid HC6
      clear hm2 hfit hxk
      have y0 := HX6.out.x.cell 0; have y1 := HX6.out.x.cell 1
      simp only [List.getElem?_toArray, List.getElem?_cons_zero, List.getElem?_cons_succ] at y0 y1
      go_wp2_with fail
      refine HC6.out.mono ?_
      rintro e w7 ⟨rfl, h7⟩
      have HX7 := Lib.hid (HX6.out.on h7)
      clear h7 HC6 HX6 y0 y1
      by_cases he : (progE p' l').1 = 0
      · have hf' := fine_of he
        have e0 : (progE p' l').1 = 0 := he
        have e1 : (progE p' l').2 = 0 := by rw [hf'.ok]
        rw [e0, e1]
        have HS1 : Hid (∀ W, P3 w W p (some ⟨bb, off, none⟩) N cap p' A' N cap' r → Calls Tryd.prog 10 #[.agg #[.int .i64 p, .slice (some ⟨bb, off, none⟩) N cap], .int .i64 k, regV r] W (StepG (stepP ⟨xo, xa, xb, xn⟩ k r) W)) := fun W h => by
          have := Step_any p (some ⟨bb, off, none⟩) l cap k r W h.tabs (HI.out.below h.below)
          rwa [HN.out, stepF_in (by rw [HF.out.ok]) HL.out] at this
        have HS2 : Hid (∀ W, XP w B p (some ⟨bb, off, none⟩) N cap p' A' N cap' r l' G g cp W → Calls Tryd.prog 10 #[.agg #[.int .i64 p', .slice (some ⟨g, 0, none⟩) N cp], .int .i64 k, regV r] W (StepG (stepP ⟨xo, xa, xb, xn⟩ k r) W)) := fun W h => by
          have := Step_any p' (some ⟨g, 0, none⟩) l' cp k r W h.three.tabs (HIX.out W h)
          rwa [HM2.out, stepF_in he HXK.out] at this
        obtain ⟨R, hR⟩ : ∃ R, stepP ⟨xo, xa, xb, xn⟩ k r = R := ⟨_, rfl⟩
        rw [hR] at HS1 HS2
        clear hR he hf' e0 e1
        obtain ⟨gp, ⟨ga, gb, gc, gd⟩, ⟨go, gr, gn⟩⟩ := R
        obtain ⟨x0, x1, -, -, x4, x5, x6, x7, x8⟩ := HX7.out.three.cells
        go_wp2_with fail
        refine (HS1.out _ HX7.out.three).mono ?_
        rintro e w8 ⟨rfl, h8⟩
        dsimp only
        obtain ⟨b9, r9, e9⟩ := two (w := w8) (t := 25) (u := 29) (a := #[.int .i32 ga, .int .i32 gb, .int .i32 gc, .int .i32 gd]) (b := #[.int .i64 go, .int .i64 gr, .int .i32 gn])
        have HX9 := Lib.hid ((HX7.out.on h8).on b9)
        have R9 := Lib.hid r9; have E9 := Lib.hid e9
        clear h8 b9 r9 e9 HX7 x0 x1 x4 x5 x6 x7 x8
        obtain ⟨-, -, -, -, x4, x5, x6, x7, x8⟩ := HX9.out.three.cells
        have y0 := HX9.out.x.cell 0; have y1 := HX9.out.x.cell 1
        simp only [List.getElem?_toArray, List.getElem?_cons_zero, List.getElem?_cons_succ] at y0 y1
        go_wp2_with fail
        refine (HS2.out _ HX9.out).mono ?_
        rintro e w10 ⟨rfl, h10⟩
        dsimp only
        obtain ⟨b11, r11, e11⟩ := two (w := w10) (t := 25) (u := 29) (a := #[.int .i32 ga, .int .i32 gb, .int .i32 gc, .int .i32 gd]) (b := #[.int .i64 go, .int .i64 gr, .int .i32 gn])
        have HX11 := Lib.hid ((HX9.out.on h10).on b11)
        have r12 := (R9.out.below h10 R9.out.lt).below b11 (Nat.lt_of_lt_of_le R9.out.lt h10.size)
        have e12 := (E9.out.below h10 E9.out.lt).below b11 (Nat.lt_of_lt_of_le E9.out.lt h10.size)
        clear h10 b11 x4 x5 x6 x7 x8 y0 y1
        have u0 := r11.cell 0; have u1 := r11.cell 1; have u2 := r11.cell 2; have u3 := r11.cell 3
        have v0 := r12.cell 0; have v1 := r12.cell 1; have v2 := r12.cell 2; have v3 := r12.cell 3
        have y0 := e11.cell 0; have y1 := e11.cell 1; have y2 := e11.cell 2
        have z0 := e12.cell 0; have z1 := e12.cell 1; have z2 := e12.cell 2
        simp only [List.getElem?_toArray, List.getElem?_cons_zero, List.getElem?_cons_succ] at u0 u1 u2 u3 v0 v1 v2 v3 y0 y1 y2 z0 z1 z2
        clear r11 e11 r12 e12
        have q1 := regs_same ⟨ga, gb, gc, gd⟩; have q2 := eff_same ⟨go, gr, gn⟩
        dsimp only [regV, effV] at q1 q2
        go_wp2_with fail
        go_ret
        exact ⟨rfl, HX11.out.three.below⟩
      · obtain ⟨e1, he1⟩ : ∃ e, (progE p' l').1 = e := ⟨_, rfl⟩
        obtain ⟨e2, he2⟩ : ∃ e, (progE p' l').2 = e := ⟨_, rfl⟩
        rw [he1] at he
        rw [he1, he2]
        have t0 : (e1 != 0) = true := by simpa using he
        clear he he1 he2
        go_wp2_with fail
        go_ret
        exact ⟨rfl, HX7.out.three.below⟩
end Go.Proofs.YtdjdmkgiidbnnaaDoor
