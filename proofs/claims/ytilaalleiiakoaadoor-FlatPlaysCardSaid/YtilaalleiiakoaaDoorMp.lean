/- The document's Next: a task more (layer 19): printed by wip/src19/gen_mg.py. -/
import Derived.Test.YtilaalleiiakoaaDoorMg
namespace Go.Proofs.YtilaalleiiakoaaDoor
open Go.RowKit
set_option maxRecDepth 100000

theorem Blk.grown_ {w w' : World} {g : Nat} {t : TypeId} {cs : Array Value} {row : Option Nat} (h : Blk w g t cs) (hg : w.grownBy w' row) (hr : some g ≠ row) : Blk w' g t cs := (hg.block g h.lt hr).trans h
theorem run_append_nil (P : Program) (w : World) (base : Nat) (t ty e : TypeId) (i : TypeInfo) (size : Nat) (ht : P.underlying t = some (.slice e)) (hi : P.info? e = some i)
  (v : Value) (n c : Nat) (xs : List Value) (hown : w.ownsRow base e size v n xs) :
  (Builtin.append_ #[t, t] ty #[v, .slice none 0 c]).run P w = .ok v w := by
 rcases hown.2 with ⟨rfl, rfl⟩ | ⟨g, cap, cur, rfl, _, _, hnc, _⟩
 ·
  simp [Builtin.append_, run_underlying ht, sizeOf, typeInfo, hi, Builtin.lenOf, Builtin.firstCells]
 ·
  simp [Builtin.append_, run_underlying ht, sizeOf, typeInfo, hi, Builtin.lenOf, Builtin.firstCells, hnc, storeCells]
section
variable {P : Program} (w : World)
/-- A row that may be read, appended to one of the call's own. -/
theorem step_append_in {ops : Array Oper} {o : Oper} {a : Act} {K : Act → World → Prop} {Q : Exit → Act → World → Prop} {E : Prop} (hgd : o.guard = none) (s x : Operand) (t : TypeId)
  (ho : o.op = .call { callee := .builtin .append, args := #[s, x], argTypes := #[t, t] })
  (base : Nat) (e : TypeId) (i : TypeInfo) (z : Value) (size bytes : Nat) (ht : P.underlying t = some (.slice e)) (hi : P.info? e = some i) (hz : i.zero = some z)
  (hsize : i.size = size) (hby : i.bytes = bytes) (hzs : z.cells.size = size) (hsz : 0 < size)
  (v : Value) (n : Nat) (xs : List Value) (hs : a.eval s = v) (hown : w.ownsRow base e size v n xs)
  (A : Option Addr) (m c : Nat) (ys : List Value) (hx : a.eval x = .slice A m c) (hl : ys.length = m * size) (hu : ∀ j u, ys[j]? = some u → ∃ b off, A = some ⟨b, off, none⟩ ∧ w.cell? ⟨b, off + j, none⟩ = some u) (hA : A = none → m = 0 ∧ ys = []) (h1 : ∀ x ∈ ys, x.oneCell' = true)
  (h63 : n + m ≤ maxLen) (hbytes : (n + m) * bytes ≤ 140737488355328) (hbase : base ≤ w.heap.size)
  (h : ∀ v' w', w'.ownsRow base e size v' (n + m) (xs ++ ys) → w.grownBy w' v.ownBlock → (v'.ownBlock = v.ownBlock ∨ v'.ownBlock = some w.heap.size) → K (a.put o.dst v') w') :
  if Region.wanted o (yielded ops a.tmps) = true then Oper.wp P o a w K Q else E := by
 have hw : Region.wanted o (yielded ops a.tmps) = true := by simp [Region.wanted, hgd]
 rw [if_pos hw]
 have hrun : ∃ v' w', (Builtin.append_ #[t, t] o.type #[v, .slice A m c]).run P w = .ok v' w' ∧ w'.ownsRow base e size v' (n + m) (xs ++ ys) ∧ w.grownBy w' v.ownBlock ∧ (v'.ownBlock = v.ownBlock ∨ v'.ownBlock = some w.heap.size) := by
  cases A with
  | none =>
   obtain ⟨rfl, rfl⟩ := hA rfl
   exact ⟨v, w, run_append_nil P w base t o.type e i size ht hi v n c xs hown, by simpa using hown, ⟨rfl, rfl, rfl, Nat.le_refl _, fun _ _ _ => rfl⟩, .inl rfl⟩
  | some ad =>
   obtain ⟨v', w', hr, h2, h3, _, h5⟩ := run_append_own_at (P := P) w base t o.type e i z size bytes ht hi hz hsize hby hzs hsz v n xs hown ad m c ys hl (fun j u hj => by
    obtain ⟨b, off, e1, e2⟩ := hu j u hj
    obtain rfl := Option.some.inj e1
    rw [Addr.add_mid]; exact e2) h1 h63 hbytes hbase
   exact ⟨v', w', hr, h2, h3, h5⟩
 obtain ⟨v', w', hr, h2, h3, h4⟩ := hrun
 unfold Oper.wp execOp
 simp only [ho, resolve, invoke, builtin, Sem.run_bind, Sem.run_pure, Result.andThen_ok, List.map_toArray, List.map_cons, List.map_nil, hs, hx, hr]
 exact h v' w' h2 h3 h4
end
section
variable {w : World} {B : Nat} {F O : Value} {f : Fl} {i : Nat} {x : FT} {PA : Option Addr} {ps : List PR}

set_option maxHeartbeats 8000000 in
theorem nx_1yes (h : InF w F O f.ts f.ow) (hl : f.ts.length ≤ 1000) (pcap : Nat) (tk cpu a b : Int) (hk : tk = (f.ts.length : Int) ∧ 0 ≤ a ∧ a < (ps.length : Int)) :
  Calls Tryd.prog 10 #[flV F O f.p f.tm, .slice PA ps.length pcap, evV ⟨1, tk, cpu, a, b⟩] w (NxtG w F O f (some { f with ts := f.ts ++ [FT.new a] })) := by
 have hH := h
 obtain ⟨⟨A, c, rfl, hT⟩, ⟨A2, c2, rfl, hO⟩⟩ := h
 have HH := Lib.hid hH; have HT := Lib.hid hT
 have hfr := FrU.new w (.slice A f.ts.length c) (.slice A2 f.ow.length c2) f.p f.tm ⟨1, tk, cpu, a, b⟩ #[.slice none 0 0, .int .u64 0, .int .u64 0, .int .u64 0, .int .u64 0, .int .u64 0, .int .u64 0, .int .u64 0, .int .u64 0, .int .u64 0, .int .u64 0, .int .u64 0, .int .u64 0, .int .u64 0, .int .u64 0, .int .u64 0, .int .u64 0, .slice none 0 0, .int .i64 0] rfl
 obtain ⟨n, hn⟩ : ∃ n, f.ts.length = n := ⟨_, rfl⟩
 obtain ⟨m, hm'⟩ : ∃ m, f.ow.length = m := ⟨_, rfl⟩
 have HN := Lib.hid hn; have HM := Lib.hid hm'
 rw [hn] at hfr hl HH hk ⊢
 rw [hm'] at hfr HH ⊢
 clear hH hT hO hn hm'
 dsimp only at hfr
 have HK := Lib.hid hk
 clear hk
 go_enter Tryd.func10, Tryd.ntmps10
 go_upto_region 1 with fail
 generalize ((w.alloc (.cells (flL (.slice A n c) (.slice A2 m c2) f.p f.tm).toArray 30)).alloc (.cells #[.int .i64 1, .int .i64 tk, .int .i64 cpu, .int .i64 a, .int .i64 b] 36)).alloc (.cells #[.slice none 0 0, .int .u64 0, .int .u64 0, .int .u64 0, .int .u64 0, .int .u64 0, .int .u64 0, .int .u64 0, .int .u64 0, .int .u64 0, .int .u64 0, .int .u64 0, .int .u64 0, .int .u64 0, .int .u64 0, .int .u64 0, .int .u64 0, .slice none 0 0, .int .i64 0] 30) = W at *
 have HFR := Lib.hid hfr
 obtain ⟨e0, e1, e2, e3, e4⟩ := hfr.ev
 dsimp only at e0 e1 e2 e3 e4
 have c0 := BF.c0 hfr.bf
 have HBF := Lib.hid hfr.bf
 obtain ⟨old, hbr, hold⟩ := hfr.br
 have HBR := Lib.hid hbr; have HOL := Lib.hid hold
 clear hfr hbr hold
 obtain ⟨rfl, h1, h2⟩ := HK.out
 clear HK
 have t0 : ((n : Int) != (n : Int)) = false := by simp
 have t1 : decide (a < 0) = false := by simp; omega
 have t2 : decide ((ps.length : Int) ≤ a) = false := by simp; omega
 go_upto_region 6 with fail
 clear t0 t1 t2 h1 h2 e0 e1 e2 e4
 obtain ⟨w3, hw3⟩ : ∃ w3, W = w3 := ⟨_, rfl⟩
 rw [hw3] at HFR HBF HBR e3 c0 ⊢
 clear hw3
 obtain ⟨i0, hi0, hz0, hz1, hz2⟩ := info_parts infoTaskZ
 have HB0 : Hid (Below w3.heap.size w3 w3.drew) := (Below.refl _ _).drew
 have HBA : Hid (Below w3.heap.size w3 (w3.alloc (.cells #[] 45)).drew) := ((Below.refl _ _).alloc (Nat.le_refl _) _).drew
 have HBB : Hid (Below w3.heap.size w3 (w3.alloc (.cells (taskC (FT.new a)).toArray 45)).drew) := ((Below.refl _ _).alloc (Nat.le_refl _) _).drew
 have HBAB : Hid (Below w3.heap.size w3 ((w3.alloc (.cells #[] 45)).alloc (.cells (taskC (FT.new a)).toArray 45)).drew) := (((Below.refl _ _).alloc (Nat.le_refl _) _).alloc (by simp) _).drew
 have HBBA : Hid (Below w3.heap.size w3 ((w3.alloc (.cells (taskC (FT.new a)).toArray 45)).alloc (.cells #[] 45)).drew) := (((Below.refl _ _).alloc (Nat.le_refl _) _).alloc (by simp) _).drew
 have HTL : Hid ((tsC f.ts).length = n * 8) := by show _ = _; rw [tsC_len, HN.out]
 have HNO : Hid (A = none → n = 0 ∧ tsC f.ts = []) := fun hA => by
  have : f.ts = [] := by
   cases hts : f.ts with
   | nil => rfl
   | cons x r => obtain ⟨b, off, e, -⟩ := HT.out 0 x (by rw [hts]; rfl); rw [hA] at e; cases e
  refine ⟨by rw [← HN.out, this]; rfl, by rw [this]; rfl⟩
 have HALL : Hid (∀ X, Below w3.heap.size w3 X → X.cell? ⟨w.heap.size + 1, 3, none⟩ = some (.int .i64 a) ∧ X.cell? ⟨w.heap.size, 0, none⟩ = some (.slice A n c) ∧ (∀ j u, (tsC f.ts)[j]? = some u → ∃ b off, A = some ⟨b, off, none⟩ ∧ X.cell? ⟨b, off + j, none⟩ = some u) ∧ X.frozen? ⟨w.heap.size, 0, none⟩ = false) := fun X q =>
  have hb := Blk.below HBF.out q (Blk.lt HBF.out)
  ⟨(q.cell (p := ⟨_, 3, none⟩) (lt_of_cell e3)).trans e3, BF.c0 hb, ((HT.out.below HFR.out.bl).below q).flat, BF.free hb 0⟩
 have cA : (w3.alloc (.cells #[] 45)).cell? ⟨w.heap.size, 0, none⟩ = some (.slice A n c) := (HALL.out _ HBA.out).2.1
 have cB : (w3.alloc (.cells #[.int .i64 a, .int .i64 0, .int .i32 0, .int .i32 0, .int .i32 0, .int .i32 0, .int .i64 0, .int .i64 0] 45)).cell? ⟨w.heap.size, 0, none⟩ = some (.slice A n c) := (HALL.out _ HBB.out).2.1
 have cAB : ((w3.alloc (.cells #[] 45)).alloc (.cells #[.int .i64 a, .int .i64 0, .int .i32 0, .int .i32 0, .int .i32 0, .int .i32 0, .int .i64 0, .int .i64 0] 45)).cell? ⟨w.heap.size, 0, none⟩ = some (.slice A n c) := (HALL.out _ HBAB.out).2.1
 have cBA : ((w3.alloc (.cells #[.int .i64 a, .int .i64 0, .int .i32 0, .int .i32 0, .int .i32 0, .int .i32 0, .int .i64 0, .int .i64 0] 45)).alloc (.cells #[] 45)).cell? ⟨w.heap.size, 0, none⟩ = some (.slice A n c) := (HALL.out _ HBBA.out).2.1
 have HOA : Hid ((w3.alloc (.cells #[] 45)).drew.ownsRow w3.heap.size 45 8 (.slice (some ⟨w3.heap.size, 0, none⟩) 0 0) 0 []) := World.ownsRow_lit w3 #[] 0 (Nat.le_refl _) (Nat.zero_le _) rfl
 have HOAB : Hid (((w3.alloc (.cells #[] 45)).alloc (.cells (taskC (FT.new a)).toArray 45)).drew.ownsRow w3.heap.size 45 8 (.slice (some ⟨w3.heap.size, 0, none⟩) 0 0) 0 []) := HOA.out.alloc _
 have HOBA : Hid (((w3.alloc (.cells (taskC (FT.new a)).toArray 45)).alloc (.cells #[] 45)).drew.ownsRow w3.heap.size 45 8 (.slice (some ⟨w3.heap.size + 1, 0, none⟩) 0 0) 0 []) := by
  have := World.ownsRow_lit (base := w3.heap.size) (e := 45) (size := 8) (w3.alloc (.cells (taskC (FT.new a)).toArray 45)) #[] 0 (by simp) (Nat.zero_le _) rfl
  simp at this
  exact this
 have HXAB : Hid (Blk ((w3.alloc (.cells #[] 45)).alloc (.cells (taskC (FT.new a)).toArray 45)).drew (w3.heap.size + 1) 45 (taskC (FT.new a)).toArray) := by
  have := Blk.new (w3.alloc (.cells #[] 45)) 45 (taskC (FT.new a)).toArray
  simp only [World.size_alloc] at this
  exact this
 have HXBA : Hid (Blk ((w3.alloc (.cells (taskC (FT.new a)).toArray 45)).alloc (.cells #[] 45)).drew w3.heap.size 45 (taskC (FT.new a)).toArray) := (Blk.new w3 _ _).alloc _
 have HST : Hid (∀ (w5 : World), w5.cell? ⟨w.heap.size + 1, 3, none⟩ = some (.int .i64 a) → ∀ u, (w5.setCell ⟨w.heap.size, 0, none⟩ u).cell? ⟨w.heap.size + 1, 3, none⟩ = some (.int .i64 a)) := fun w5 h5 u => by
  rw [World.cell?_setCell_other _ _ _ _ (by intro e; have := congrArg Addr.block e; simp at this)]; exact h5
 have HFIN : Hid (∀ g cap w6, w6.ownsRow w3.heap.size 45 8 (.slice (some ⟨g, 0, none⟩) (n + 1) cap) (n + 1) (tsC f.ts ++ taskC (FT.new a)) → Below w3.heap.size w3 w6 → w3.heap.size ≤ g →
   BF (w6.setCell ⟨w.heap.size, 0, none⟩ (.slice (some ⟨g, 0, none⟩) (n + 1) cap)) w.heap.size (.slice (some ⟨g, 0, none⟩) (n + 1) cap) (.slice A2 m c2) f.p f.tm ∧
   (∃ old, Blk (w6.setCell ⟨w.heap.size, 0, none⟩ (.slice (some ⟨g, 0, none⟩) (n + 1) cap)) (w.heap.size + 1 + 1) 30 old ∧ old.size = 19) ∧
   NxtG w (.slice A n c) (.slice A2 m c2) f (some { f with ts := f.ts ++ [FT.new a] }) (.returned (.tuple #[flV (.slice (some ⟨g, 0, none⟩) (n + 1) cap) (.slice A2 m c2) f.p f.tm, .bool true])) ((w6.setCell ⟨w.heap.size, 0, none⟩ (.slice (some ⟨g, 0, none⟩) (n + 1) cap)).setRow (w.heap.size + 1 + 1) (flL (.slice (some ⟨g, 0, none⟩) (n + 1) cap) (.slice A2 m c2) f.p f.tm).toArray)) := fun g cap w6 own6 B6 hg6 => by
  have hlt := HBR.out.lt
  have hbf := Blk.below HBF.out B6 (Blk.lt HBF.out)
  have h1 : BF (w6.setCell ⟨w.heap.size, 0, none⟩ (.slice (some ⟨g, 0, none⟩) (n + 1) cap)) w.heap.size (.slice (some ⟨g, 0, none⟩) (n + 1) cap) (.slice A2 m c2) f.p f.tm := by
   have := hbf.set_ 0 (.slice (some ⟨g, 0, none⟩) (n + 1) cap)
   rw [List.setIfInBounds_toArray, flL_set0] at this
   exact this
  have h2 : Blk (w6.setCell ⟨w.heap.size, 0, none⟩ (.slice (some ⟨g, 0, none⟩) (n + 1) cap)) (w.heap.size + 1 + 1) 30 old := (HBR.out.below B6 HBR.out.lt).far (by simp; omega) _
  have hbut : But (fun k => k = w.heap.size ∨ k = w.heap.size + 1 + 1) w6 ((w6.setCell ⟨w.heap.size, 0, none⟩ (.slice (some ⟨g, 0, none⟩) (n + 1) cap)).setRow (w.heap.size + 1 + 1) (flL (.slice (some ⟨g, 0, none⟩) (n + 1) cap) (.slice A2 m c2) f.p f.tm).toArray) := ((But.refl _ _).set _ _ (.inl (.inl rfl))).row _ _ (.inl (.inr rfl))
  have hbw : Below w.heap.size w ((w6.setCell ⟨w.heap.size, 0, none⟩ (.slice (some ⟨g, 0, none⟩) (n + 1) cap)).setRow (w.heap.size + 1 + 1) (flL (.slice (some ⟨g, 0, none⟩) (n + 1) cap) (.slice A2 m c2) f.p f.tm).toArray) := ((But.of_below (X := fun k => w.heap.size ≤ k) (HFR.out.bl.trans (B6.mono HFR.out.bl.size))).trans (hbut.mono fun k _ q => by show w.heap.size ≤ k; omega)).below (Nat.le_refl _) fun k _ q => q
  have hown : OwnF w6 w3.heap.size (.slice (some ⟨g, 0, none⟩) (n + 1) cap) (.slice none 0 0) (f.ts ++ [FT.new a]) [] := ⟨by rw [List.length_append, HN.out, tsC_app, tsC_one]; exact own6, World.ownsRow_nil _ _ _ _⟩
  have hin := (hown.but hbut fun k hk q => by
   rcases hk with z | z
   ·
    have : g = k := Option.some.inj z
    omega
   ·
    cases z).inF
  refine ⟨h1, ⟨old, h2, HOL.out⟩, _, _, rfl, ⟨hin.tk, (HH.out.below hbw).ow⟩, fun k hk => ?_, fun _ A' c' q => ?_, hbw⟩
  ·
   rcases hk with ⟨-, z⟩ | z
   ·
    have : g = k := Option.some.inj z
    exact .inl (by have := HFR.out.bl.size; omega)
   ·
    exact .inr (.inr z)
  ·
   simp only [Value.slice.injEq] at q
   have hlen : (f.ts ++ [FT.new a]).length = n + 1 := by rw [List.length_append, HN.out]; rfl
   rcases own6.2 with ⟨e, -⟩ | ⟨b0, cap0, cur, e, _, _, q2, _⟩
   ·
    simp at e
   ·
    simp only [Value.slice.injEq] at e; show (f.ts ++ [FT.new a]).length ≤ c'; omega
 refine wp_region_held_drew (S := fun X => X.cell? ⟨w.heap.size + 1, 3, none⟩ = some (.int .i64 a)) (by kernel_rfl) (HALL.out _ HB0.out).1 (fun hHeld => ?_)
 show wpAnyH _ _ _ _ _ _ _ _ _
 try dsimp only at hHeld
 refine wpAnyH_take (i := 1) (v := ?_) rfl (by kernel_rfl) (by kernel_rfl) (by kernel_rfl) (fun _ _ _ h => h) (Or.inl ⟨by rfl, fun X hX => by (go_simp <;> with_reducible rfl)⟩) hHeld ?_
 go_simp
 refine wpAnyH_take (i := 4) (v := ?_) rfl (by kernel_rfl) (by kernel_rfl) (by kernel_rfl) (fun _ _ _ h => h) (Or.inl ⟨by rfl, fun X hX => by (go_simp <;> with_reducible rfl)⟩) hHeld ?_
 go_simp
 refine wpAnyH_take (i := 5) (v := ?_) rfl (by kernel_rfl) (by kernel_rfl) (by kernel_rfl) (fun _ _ _ h => h) (Or.inl ⟨by rfl, fun X hX => by (go_simp <;> with_reducible rfl)⟩) hHeld ?_
 go_simp
 refine wpAnyH_take (i := 6) (v := ?_) rfl (by kernel_rfl) (by kernel_rfl) (by kernel_rfl) (fun _ _ _ h => h) (Or.inl ⟨by rfl, fun X hX => by (go_simp <;> with_reducible rfl)⟩) hHeld ?_
 go_simp
 refine wpAnyH_ready (rs := [0, 2, 7]) (by kernel_rfl) (by simp) (AllReadyH.cons rfl (fun K hK => ?_) (AllReadyH.cons rfl (fun K hK => ?_) (AllReadyH.cons rfl (fun K hK => ?_) (AllReadyH.nil))))
 ·
  go_simp
  refine hK.out _ _ (HALL.out _ HBA.out).1 (fun hHeld => ?_)
  clear hK K
  refine wpAnyH_ready (rs := [2, 7]) (by kernel_rfl) (by simp) (AllReadyH.cons rfl (fun K hK => ?_) (AllReadyH.cons rfl (fun K hK => ?_) (AllReadyH.nil)))
  ·
   go_simp
   refine hK.out _ _ (HALL.out _ HBA.out).1 (fun hHeld => ?_)
   clear hK K
   refine wpAnyH_ready (rs := [3, 7]) (by kernel_rfl) (by simp) (AllReadyH.cons rfl (fun K hK => ?_) (AllReadyH.cons rfl (fun K hK => ?_) (AllReadyH.nil)))
   ·
    refine step_append_in _ rfl (.tmp 50) (.tmp 52) 27 rfl w3.heap.size 45 i0 _ 8 48 Tryd.underlying27 hi0 hz0 hz1 hz2 rfl (by decide) (.slice (some ⟨w3.heap.size, 0, none⟩) 0 0) 0 [] rfl HOA.out A n c (tsC f.ts) rfl HTL.out (HALL.out _ HBA.out).2.2.1 HNO.out tsC_mem (by unfold maxLen; omega) (by omega) (HBA.out.size) ?_
    intro v5 w5 own5 gr5 hv5
    rw [Nat.zero_add, List.nil_append] at own5
    have B5 : Hid (Below w3.heap.size w3 w5) := Lib.hid (HBA.out.grown gr5 HBA.out.size (fun k hk => by simp [Value.ownBlock] at hk; omega))
    have HV5 : Hid (∀ k, v5.ownBlock = some k → w3.heap.size ≤ k) := Lib.hid fun k hk => (own5.lt k hk).1
    clear gr5 hv5
    refine hK.out _ _ (HALL.out _ B5.out).1 (fun hHeld => ?_)
    clear hK K
    refine wpAnyH_ready (rs := [7]) (by kernel_rfl) (by simp) (AllReadyH.cons rfl (fun K hK => ?_) (AllReadyH.nil))
    ·
     go_simp
     have HX5 : Hid (Blk (w5.alloc (.cells (taskC (FT.new a)).toArray 45)) w5.heap.size 45 (taskC (FT.new a)).toArray) := Lib.hid (Blk.new w5 _ _)
     have B7 : Hid (Below w3.heap.size w3 (w5.alloc (.cells (taskC (FT.new a)).toArray 45))) := Lib.hid (B5.out.alloc B5.out.size _)
     refine hK.out _ _ (HALL.out _ B7.out).1 (fun hHeld => ?_)
     clear hK K
     refine wpAnyH_ready (rs := [8]) (by kernel_rfl) (by simp) (AllReadyH.cons rfl (fun K hK => ?_) AllReadyH.nil)
     refine step_append_lies _ rfl (.tmp 53) (.tmp 57) 27 rfl w3.heap.size 45 i0 _ 8 48 Tryd.underlying27 hi0 hz0 hz1 hz2 rfl (by decide) v5 n (tsC f.ts) rfl (own5.alloc _) ⟨w5.heap.size, 0, none⟩ 1 1 (taskC (FT.new a)) rfl rfl (fun j u hu => by rw [Addr.add_mid, Nat.zero_add]; exact (HX5.out.cell j).trans (by rw [List.getElem?_toArray]; exact hu)) (taskC_one _) (by decide) (by unfold maxLen; omega) (by omega) (B7.out.size) _ rfl ?_
     intro g cap w6 own6 gr6 hg6 hl6
     have B6 : Hid (Below w3.heap.size w3 w6) := Lib.hid (B7.out.grown gr6 B7.out.size HV5.out)
     have f6 := HALL.out w6 B6.out
     have f61 := f6.1; have f62 := f6.2.1; have f63 := f6.2.2.2
     have hg7 : w3.heap.size ≤ g := (own6.lt g rfl).1
     clear f6
     refine hK.out _ _ f61 (fun hHeld => ?_)
     clear hK K
     refine wpAnyH_take (i := 9) (v := ?_) rfl (by kernel_rfl) (by kernel_rfl) (by kernel_rfl) (fun _ _ _ h => h) (Or.inl ⟨by rfl, fun X hX => by (go_simp <;> with_reducible rfl)⟩) hHeld ?_
     go_simp
     refine wpAnyH_ready (rs := [10]) (by kernel_rfl) (by simp) (AllReadyH.cons rfl (fun K hK => ?_) AllReadyH.nil)
     go_simp
     refine hK.out _ _ (HST.out w6 f61 _) (fun hHeld => ?_)
     clear hK K
     have HX := Lib.hid (HFIN.out g cap w6 own6 B6.out hg7)
     obtain ⟨old, hbr, hold⟩ := HX.out.2.1
     have HBRX := Lib.hid hbr; have HOLX := Lib.hid hold
     clear hbr hold
     refine wpAnyH_done (by kernel_rfl) ?_ _
     go_wp2_with (first
      | (with_reducible (show wpList _ _ _ _ _ _); refine ld_flat rfl (.tmp 3) rfl w.heap.size rfl HX.out.1 ?_)
      | (with_reducible (show wpList _ _ _ _ _ _); refine st_flat rfl (.tmp 6) (.tmp 60) rfl (w.heap.size + 1 + 1) rfl rfl rfl rfl old HBRX.out HOLX.out ?_))
     refine ret_flat2 rfl (w.heap.size + 1 + 1) rfl (BF.row HBRX.out) rfl ?_
     exact HX.out.2.2
   ·
    go_simp
    refine hK.out _ _ (HALL.out _ HBAB.out).1 (fun hHeld => ?_)
    clear hK K
    refine wpAnyH_ready (rs := [3]) (by kernel_rfl) (by simp) (AllReadyH.cons rfl (fun K hK => ?_) (AllReadyH.nil))
    ·
     refine step_append_in _ rfl (.tmp 50) (.tmp 52) 27 rfl w3.heap.size 45 i0 _ 8 48 Tryd.underlying27 hi0 hz0 hz1 hz2 rfl (by decide) (.slice (some ⟨w3.heap.size, 0, none⟩) 0 0) 0 [] rfl HOAB.out A n c (tsC f.ts) rfl HTL.out (HALL.out _ HBAB.out).2.2.1 HNO.out tsC_mem (by unfold maxLen; omega) (by omega) (HBAB.out.size) ?_
     intro v5 w5 own5 gr5 hv5
     rw [Nat.zero_add, List.nil_append] at own5
     have B5 : Hid (Below w3.heap.size w3 w5) := Lib.hid (HBAB.out.grown gr5 HBAB.out.size (fun k hk => by simp [Value.ownBlock] at hk; omega))
     have HV5 : Hid (∀ k, v5.ownBlock = some k → w3.heap.size ≤ k) := Lib.hid fun k hk => (own5.lt k hk).1
     have HX5 : Hid (Blk w5 (w3.heap.size + 1) 45 (taskC (FT.new a)).toArray) := Lib.hid (Blk.grown_ HXAB.out gr5 (by simp [Value.ownBlock]))
     clear gr5 hv5
     refine hK.out _ _ (HALL.out _ B5.out).1 (fun hHeld => ?_)
     clear hK K
     refine wpAnyH_ready (rs := [8]) (by kernel_rfl) (by simp) (AllReadyH.cons rfl (fun K hK => ?_) AllReadyH.nil)
     refine step_append_lies _ rfl (.tmp 53) (.tmp 57) 27 rfl w3.heap.size 45 i0 _ 8 48 Tryd.underlying27 hi0 hz0 hz1 hz2 rfl (by decide) v5 n (tsC f.ts) rfl (own5) ⟨(w3.heap.size + 1), 0, none⟩ 1 1 (taskC (FT.new a)) rfl rfl (fun j u hu => by rw [Addr.add_mid, Nat.zero_add]; exact (HX5.out.cell j).trans (by rw [List.getElem?_toArray]; exact hu)) (taskC_one _) (by decide) (by unfold maxLen; omega) (by omega) (B5.out.size) _ rfl ?_
     intro g cap w6 own6 gr6 hg6 hl6
     have B6 : Hid (Below w3.heap.size w3 w6) := Lib.hid (B5.out.grown gr6 B5.out.size HV5.out)
     have f6 := HALL.out w6 B6.out
     have f61 := f6.1; have f62 := f6.2.1; have f63 := f6.2.2.2
     have hg7 : w3.heap.size ≤ g := (own6.lt g rfl).1
     clear f6
     refine hK.out _ _ f61 (fun hHeld => ?_)
     clear hK K
     refine wpAnyH_take (i := 9) (v := ?_) rfl (by kernel_rfl) (by kernel_rfl) (by kernel_rfl) (fun _ _ _ h => h) (Or.inl ⟨by rfl, fun X hX => by (go_simp <;> with_reducible rfl)⟩) hHeld ?_
     go_simp
     refine wpAnyH_ready (rs := [10]) (by kernel_rfl) (by simp) (AllReadyH.cons rfl (fun K hK => ?_) AllReadyH.nil)
     go_simp
     refine hK.out _ _ (HST.out w6 f61 _) (fun hHeld => ?_)
     clear hK K
     have HX := Lib.hid (HFIN.out g cap w6 own6 B6.out hg7)
     obtain ⟨old, hbr, hold⟩ := HX.out.2.1
     have HBRX := Lib.hid hbr; have HOLX := Lib.hid hold
     clear hbr hold
     refine wpAnyH_done (by kernel_rfl) ?_ _
     go_wp2_with (first
      | (with_reducible (show wpList _ _ _ _ _ _); refine ld_flat rfl (.tmp 3) rfl w.heap.size rfl HX.out.1 ?_)
      | (with_reducible (show wpList _ _ _ _ _ _); refine st_flat rfl (.tmp 6) (.tmp 60) rfl (w.heap.size + 1 + 1) rfl rfl rfl rfl old HBRX.out HOLX.out ?_))
     refine ret_flat2 rfl (w.heap.size + 1 + 1) rfl (BF.row HBRX.out) rfl ?_
     exact HX.out.2.2
  ·
   go_simp
   refine hK.out _ _ (HALL.out _ HBAB.out).1 (fun hHeld => ?_)
   clear hK K
   refine wpAnyH_ready (rs := [2]) (by kernel_rfl) (by simp) (AllReadyH.cons rfl (fun K hK => ?_) (AllReadyH.nil))
   ·
    go_simp
    refine hK.out _ _ (HALL.out _ HBAB.out).1 (fun hHeld => ?_)
    clear hK K
    refine wpAnyH_ready (rs := [3]) (by kernel_rfl) (by simp) (AllReadyH.cons rfl (fun K hK => ?_) (AllReadyH.nil))
    ·
     refine step_append_in _ rfl (.tmp 50) (.tmp 52) 27 rfl w3.heap.size 45 i0 _ 8 48 Tryd.underlying27 hi0 hz0 hz1 hz2 rfl (by decide) (.slice (some ⟨w3.heap.size, 0, none⟩) 0 0) 0 [] rfl HOAB.out A n c (tsC f.ts) rfl HTL.out (HALL.out _ HBAB.out).2.2.1 HNO.out tsC_mem (by unfold maxLen; omega) (by omega) (HBAB.out.size) ?_
     intro v5 w5 own5 gr5 hv5
     rw [Nat.zero_add, List.nil_append] at own5
     have B5 : Hid (Below w3.heap.size w3 w5) := Lib.hid (HBAB.out.grown gr5 HBAB.out.size (fun k hk => by simp [Value.ownBlock] at hk; omega))
     have HV5 : Hid (∀ k, v5.ownBlock = some k → w3.heap.size ≤ k) := Lib.hid fun k hk => (own5.lt k hk).1
     have HX5 : Hid (Blk w5 (w3.heap.size + 1) 45 (taskC (FT.new a)).toArray) := Lib.hid (Blk.grown_ HXAB.out gr5 (by simp [Value.ownBlock]))
     clear gr5 hv5
     refine hK.out _ _ (HALL.out _ B5.out).1 (fun hHeld => ?_)
     clear hK K
     refine wpAnyH_ready (rs := [8]) (by kernel_rfl) (by simp) (AllReadyH.cons rfl (fun K hK => ?_) AllReadyH.nil)
     refine step_append_lies _ rfl (.tmp 53) (.tmp 57) 27 rfl w3.heap.size 45 i0 _ 8 48 Tryd.underlying27 hi0 hz0 hz1 hz2 rfl (by decide) v5 n (tsC f.ts) rfl (own5) ⟨(w3.heap.size + 1), 0, none⟩ 1 1 (taskC (FT.new a)) rfl rfl (fun j u hu => by rw [Addr.add_mid, Nat.zero_add]; exact (HX5.out.cell j).trans (by rw [List.getElem?_toArray]; exact hu)) (taskC_one _) (by decide) (by unfold maxLen; omega) (by omega) (B5.out.size) _ rfl ?_
     intro g cap w6 own6 gr6 hg6 hl6
     have B6 : Hid (Below w3.heap.size w3 w6) := Lib.hid (B5.out.grown gr6 B5.out.size HV5.out)
     have f6 := HALL.out w6 B6.out
     have f61 := f6.1; have f62 := f6.2.1; have f63 := f6.2.2.2
     have hg7 : w3.heap.size ≤ g := (own6.lt g rfl).1
     clear f6
     refine hK.out _ _ f61 (fun hHeld => ?_)
     clear hK K
     refine wpAnyH_take (i := 9) (v := ?_) rfl (by kernel_rfl) (by kernel_rfl) (by kernel_rfl) (fun _ _ _ h => h) (Or.inl ⟨by rfl, fun X hX => by (go_simp <;> with_reducible rfl)⟩) hHeld ?_
     go_simp
     refine wpAnyH_ready (rs := [10]) (by kernel_rfl) (by simp) (AllReadyH.cons rfl (fun K hK => ?_) AllReadyH.nil)
     go_simp
     refine hK.out _ _ (HST.out w6 f61 _) (fun hHeld => ?_)
     clear hK K
     have HX := Lib.hid (HFIN.out g cap w6 own6 B6.out hg7)
     obtain ⟨old, hbr, hold⟩ := HX.out.2.1
     have HBRX := Lib.hid hbr; have HOLX := Lib.hid hold
     clear hbr hold
     refine wpAnyH_done (by kernel_rfl) ?_ _
     go_wp2_with (first
      | (with_reducible (show wpList _ _ _ _ _ _); refine ld_flat rfl (.tmp 3) rfl w.heap.size rfl HX.out.1 ?_)
      | (with_reducible (show wpList _ _ _ _ _ _); refine st_flat rfl (.tmp 6) (.tmp 60) rfl (w.heap.size + 1 + 1) rfl rfl rfl rfl old HBRX.out HOLX.out ?_))
     refine ret_flat2 rfl (w.heap.size + 1 + 1) rfl (BF.row HBRX.out) rfl ?_
     exact HX.out.2.2
 ·
  go_simp
  refine hK.out _ _ (HALL.out _ HB0.out).1 (fun hHeld => ?_)
  clear hK K
  refine wpAnyH_ready (rs := [0, 7]) (by kernel_rfl) (by simp) (AllReadyH.cons rfl (fun K hK => ?_) (AllReadyH.cons rfl (fun K hK => ?_) (AllReadyH.nil)))
  ·
   go_simp
   refine hK.out _ _ (HALL.out _ HBA.out).1 (fun hHeld => ?_)
   clear hK K
   refine wpAnyH_ready (rs := [3, 7]) (by kernel_rfl) (by simp) (AllReadyH.cons rfl (fun K hK => ?_) (AllReadyH.cons rfl (fun K hK => ?_) (AllReadyH.nil)))
   ·
    refine step_append_in _ rfl (.tmp 50) (.tmp 52) 27 rfl w3.heap.size 45 i0 _ 8 48 Tryd.underlying27 hi0 hz0 hz1 hz2 rfl (by decide) (.slice (some ⟨w3.heap.size, 0, none⟩) 0 0) 0 [] rfl HOA.out A n c (tsC f.ts) rfl HTL.out (HALL.out _ HBA.out).2.2.1 HNO.out tsC_mem (by unfold maxLen; omega) (by omega) (HBA.out.size) ?_
    intro v5 w5 own5 gr5 hv5
    rw [Nat.zero_add, List.nil_append] at own5
    have B5 : Hid (Below w3.heap.size w3 w5) := Lib.hid (HBA.out.grown gr5 HBA.out.size (fun k hk => by simp [Value.ownBlock] at hk; omega))
    have HV5 : Hid (∀ k, v5.ownBlock = some k → w3.heap.size ≤ k) := Lib.hid fun k hk => (own5.lt k hk).1
    clear gr5 hv5
    refine hK.out _ _ (HALL.out _ B5.out).1 (fun hHeld => ?_)
    clear hK K
    refine wpAnyH_ready (rs := [7]) (by kernel_rfl) (by simp) (AllReadyH.cons rfl (fun K hK => ?_) (AllReadyH.nil))
    ·
     go_simp
     have HX5 : Hid (Blk (w5.alloc (.cells (taskC (FT.new a)).toArray 45)) w5.heap.size 45 (taskC (FT.new a)).toArray) := Lib.hid (Blk.new w5 _ _)
     have B7 : Hid (Below w3.heap.size w3 (w5.alloc (.cells (taskC (FT.new a)).toArray 45))) := Lib.hid (B5.out.alloc B5.out.size _)
     refine hK.out _ _ (HALL.out _ B7.out).1 (fun hHeld => ?_)
     clear hK K
     refine wpAnyH_ready (rs := [8]) (by kernel_rfl) (by simp) (AllReadyH.cons rfl (fun K hK => ?_) AllReadyH.nil)
     refine step_append_lies _ rfl (.tmp 53) (.tmp 57) 27 rfl w3.heap.size 45 i0 _ 8 48 Tryd.underlying27 hi0 hz0 hz1 hz2 rfl (by decide) v5 n (tsC f.ts) rfl (own5.alloc _) ⟨w5.heap.size, 0, none⟩ 1 1 (taskC (FT.new a)) rfl rfl (fun j u hu => by rw [Addr.add_mid, Nat.zero_add]; exact (HX5.out.cell j).trans (by rw [List.getElem?_toArray]; exact hu)) (taskC_one _) (by decide) (by unfold maxLen; omega) (by omega) (B7.out.size) _ rfl ?_
     intro g cap w6 own6 gr6 hg6 hl6
     have B6 : Hid (Below w3.heap.size w3 w6) := Lib.hid (B7.out.grown gr6 B7.out.size HV5.out)
     have f6 := HALL.out w6 B6.out
     have f61 := f6.1; have f62 := f6.2.1; have f63 := f6.2.2.2
     have hg7 : w3.heap.size ≤ g := (own6.lt g rfl).1
     clear f6
     refine hK.out _ _ f61 (fun hHeld => ?_)
     clear hK K
     refine wpAnyH_take (i := 9) (v := ?_) rfl (by kernel_rfl) (by kernel_rfl) (by kernel_rfl) (fun _ _ _ h => h) (Or.inl ⟨by rfl, fun X hX => by (go_simp <;> with_reducible rfl)⟩) hHeld ?_
     go_simp
     refine wpAnyH_ready (rs := [10]) (by kernel_rfl) (by simp) (AllReadyH.cons rfl (fun K hK => ?_) AllReadyH.nil)
     go_simp
     refine hK.out _ _ (HST.out w6 f61 _) (fun hHeld => ?_)
     clear hK K
     have HX := Lib.hid (HFIN.out g cap w6 own6 B6.out hg7)
     obtain ⟨old, hbr, hold⟩ := HX.out.2.1
     have HBRX := Lib.hid hbr; have HOLX := Lib.hid hold
     clear hbr hold
     refine wpAnyH_done (by kernel_rfl) ?_ _
     go_wp2_with (first
      | (with_reducible (show wpList _ _ _ _ _ _); refine ld_flat rfl (.tmp 3) rfl w.heap.size rfl HX.out.1 ?_)
      | (with_reducible (show wpList _ _ _ _ _ _); refine st_flat rfl (.tmp 6) (.tmp 60) rfl (w.heap.size + 1 + 1) rfl rfl rfl rfl old HBRX.out HOLX.out ?_))
     refine ret_flat2 rfl (w.heap.size + 1 + 1) rfl (BF.row HBRX.out) rfl ?_
     exact HX.out.2.2
   ·
    go_simp
    refine hK.out _ _ (HALL.out _ HBAB.out).1 (fun hHeld => ?_)
    clear hK K
    refine wpAnyH_ready (rs := [3]) (by kernel_rfl) (by simp) (AllReadyH.cons rfl (fun K hK => ?_) (AllReadyH.nil))
    ·
     refine step_append_in _ rfl (.tmp 50) (.tmp 52) 27 rfl w3.heap.size 45 i0 _ 8 48 Tryd.underlying27 hi0 hz0 hz1 hz2 rfl (by decide) (.slice (some ⟨w3.heap.size, 0, none⟩) 0 0) 0 [] rfl HOAB.out A n c (tsC f.ts) rfl HTL.out (HALL.out _ HBAB.out).2.2.1 HNO.out tsC_mem (by unfold maxLen; omega) (by omega) (HBAB.out.size) ?_
     intro v5 w5 own5 gr5 hv5
     rw [Nat.zero_add, List.nil_append] at own5
     have B5 : Hid (Below w3.heap.size w3 w5) := Lib.hid (HBAB.out.grown gr5 HBAB.out.size (fun k hk => by simp [Value.ownBlock] at hk; omega))
     have HV5 : Hid (∀ k, v5.ownBlock = some k → w3.heap.size ≤ k) := Lib.hid fun k hk => (own5.lt k hk).1
     have HX5 : Hid (Blk w5 (w3.heap.size + 1) 45 (taskC (FT.new a)).toArray) := Lib.hid (Blk.grown_ HXAB.out gr5 (by simp [Value.ownBlock]))
     clear gr5 hv5
     refine hK.out _ _ (HALL.out _ B5.out).1 (fun hHeld => ?_)
     clear hK K
     refine wpAnyH_ready (rs := [8]) (by kernel_rfl) (by simp) (AllReadyH.cons rfl (fun K hK => ?_) AllReadyH.nil)
     refine step_append_lies _ rfl (.tmp 53) (.tmp 57) 27 rfl w3.heap.size 45 i0 _ 8 48 Tryd.underlying27 hi0 hz0 hz1 hz2 rfl (by decide) v5 n (tsC f.ts) rfl (own5) ⟨(w3.heap.size + 1), 0, none⟩ 1 1 (taskC (FT.new a)) rfl rfl (fun j u hu => by rw [Addr.add_mid, Nat.zero_add]; exact (HX5.out.cell j).trans (by rw [List.getElem?_toArray]; exact hu)) (taskC_one _) (by decide) (by unfold maxLen; omega) (by omega) (B5.out.size) _ rfl ?_
     intro g cap w6 own6 gr6 hg6 hl6
     have B6 : Hid (Below w3.heap.size w3 w6) := Lib.hid (B5.out.grown gr6 B5.out.size HV5.out)
     have f6 := HALL.out w6 B6.out
     have f61 := f6.1; have f62 := f6.2.1; have f63 := f6.2.2.2
     have hg7 : w3.heap.size ≤ g := (own6.lt g rfl).1
     clear f6
     refine hK.out _ _ f61 (fun hHeld => ?_)
     clear hK K
     refine wpAnyH_take (i := 9) (v := ?_) rfl (by kernel_rfl) (by kernel_rfl) (by kernel_rfl) (fun _ _ _ h => h) (Or.inl ⟨by rfl, fun X hX => by (go_simp <;> with_reducible rfl)⟩) hHeld ?_
     go_simp
     refine wpAnyH_ready (rs := [10]) (by kernel_rfl) (by simp) (AllReadyH.cons rfl (fun K hK => ?_) AllReadyH.nil)
     go_simp
     refine hK.out _ _ (HST.out w6 f61 _) (fun hHeld => ?_)
     clear hK K
     have HX := Lib.hid (HFIN.out g cap w6 own6 B6.out hg7)
     obtain ⟨old, hbr, hold⟩ := HX.out.2.1
     have HBRX := Lib.hid hbr; have HOLX := Lib.hid hold
     clear hbr hold
     refine wpAnyH_done (by kernel_rfl) ?_ _
     go_wp2_with (first
      | (with_reducible (show wpList _ _ _ _ _ _); refine ld_flat rfl (.tmp 3) rfl w.heap.size rfl HX.out.1 ?_)
      | (with_reducible (show wpList _ _ _ _ _ _); refine st_flat rfl (.tmp 6) (.tmp 60) rfl (w.heap.size + 1 + 1) rfl rfl rfl rfl old HBRX.out HOLX.out ?_))
     refine ret_flat2 rfl (w.heap.size + 1 + 1) rfl (BF.row HBRX.out) rfl ?_
     exact HX.out.2.2
  ·
   go_simp
   refine hK.out _ _ (HALL.out _ HBB.out).1 (fun hHeld => ?_)
   clear hK K
   refine wpAnyH_ready (rs := [0]) (by kernel_rfl) (by simp) (AllReadyH.cons rfl (fun K hK => ?_) (AllReadyH.nil))
   ·
    go_simp
    refine hK.out _ _ (HALL.out _ HBBA.out).1 (fun hHeld => ?_)
    clear hK K
    refine wpAnyH_ready (rs := [3]) (by kernel_rfl) (by simp) (AllReadyH.cons rfl (fun K hK => ?_) (AllReadyH.nil))
    ·
     refine step_append_in _ rfl (.tmp 50) (.tmp 52) 27 rfl w3.heap.size 45 i0 _ 8 48 Tryd.underlying27 hi0 hz0 hz1 hz2 rfl (by decide) (.slice (some ⟨w3.heap.size + 1, 0, none⟩) 0 0) 0 [] rfl HOBA.out A n c (tsC f.ts) rfl HTL.out (HALL.out _ HBBA.out).2.2.1 HNO.out tsC_mem (by unfold maxLen; omega) (by omega) (HBBA.out.size) ?_
     intro v5 w5 own5 gr5 hv5
     rw [Nat.zero_add, List.nil_append] at own5
     have B5 : Hid (Below w3.heap.size w3 w5) := Lib.hid (HBBA.out.grown gr5 HBBA.out.size (fun k hk => by simp [Value.ownBlock] at hk; omega))
     have HV5 : Hid (∀ k, v5.ownBlock = some k → w3.heap.size ≤ k) := Lib.hid fun k hk => (own5.lt k hk).1
     have HX5 : Hid (Blk w5 w3.heap.size 45 (taskC (FT.new a)).toArray) := Lib.hid (Blk.grown_ HXBA.out gr5 (by simp [Value.ownBlock]))
     clear gr5 hv5
     refine hK.out _ _ (HALL.out _ B5.out).1 (fun hHeld => ?_)
     clear hK K
     refine wpAnyH_ready (rs := [8]) (by kernel_rfl) (by simp) (AllReadyH.cons rfl (fun K hK => ?_) AllReadyH.nil)
     refine step_append_lies _ rfl (.tmp 53) (.tmp 57) 27 rfl w3.heap.size 45 i0 _ 8 48 Tryd.underlying27 hi0 hz0 hz1 hz2 rfl (by decide) v5 n (tsC f.ts) rfl (own5) ⟨w3.heap.size, 0, none⟩ 1 1 (taskC (FT.new a)) rfl rfl (fun j u hu => by rw [Addr.add_mid, Nat.zero_add]; exact (HX5.out.cell j).trans (by rw [List.getElem?_toArray]; exact hu)) (taskC_one _) (by decide) (by unfold maxLen; omega) (by omega) (B5.out.size) _ rfl ?_
     intro g cap w6 own6 gr6 hg6 hl6
     have B6 : Hid (Below w3.heap.size w3 w6) := Lib.hid (B5.out.grown gr6 B5.out.size HV5.out)
     have f6 := HALL.out w6 B6.out
     have f61 := f6.1; have f62 := f6.2.1; have f63 := f6.2.2.2
     have hg7 : w3.heap.size ≤ g := (own6.lt g rfl).1
     clear f6
     refine hK.out _ _ f61 (fun hHeld => ?_)
     clear hK K
     refine wpAnyH_take (i := 9) (v := ?_) rfl (by kernel_rfl) (by kernel_rfl) (by kernel_rfl) (fun _ _ _ h => h) (Or.inl ⟨by rfl, fun X hX => by (go_simp <;> with_reducible rfl)⟩) hHeld ?_
     go_simp
     refine wpAnyH_ready (rs := [10]) (by kernel_rfl) (by simp) (AllReadyH.cons rfl (fun K hK => ?_) AllReadyH.nil)
     go_simp
     refine hK.out _ _ (HST.out w6 f61 _) (fun hHeld => ?_)
     clear hK K
     have HX := Lib.hid (HFIN.out g cap w6 own6 B6.out hg7)
     obtain ⟨old, hbr, hold⟩ := HX.out.2.1
     have HBRX := Lib.hid hbr; have HOLX := Lib.hid hold
     clear hbr hold
     refine wpAnyH_done (by kernel_rfl) ?_ _
     go_wp2_with (first
      | (with_reducible (show wpList _ _ _ _ _ _); refine ld_flat rfl (.tmp 3) rfl w.heap.size rfl HX.out.1 ?_)
      | (with_reducible (show wpList _ _ _ _ _ _); refine st_flat rfl (.tmp 6) (.tmp 60) rfl (w.heap.size + 1 + 1) rfl rfl rfl rfl old HBRX.out HOLX.out ?_))
     refine ret_flat2 rfl (w.heap.size + 1 + 1) rfl (BF.row HBRX.out) rfl ?_
     exact HX.out.2.2
 ·
  go_simp
  refine hK.out _ _ (HALL.out _ HBB.out).1 (fun hHeld => ?_)
  clear hK K
  refine wpAnyH_ready (rs := [0, 2]) (by kernel_rfl) (by simp) (AllReadyH.cons rfl (fun K hK => ?_) (AllReadyH.cons rfl (fun K hK => ?_) (AllReadyH.nil)))
  ·
   go_simp
   refine hK.out _ _ (HALL.out _ HBBA.out).1 (fun hHeld => ?_)
   clear hK K
   refine wpAnyH_ready (rs := [2]) (by kernel_rfl) (by simp) (AllReadyH.cons rfl (fun K hK => ?_) (AllReadyH.nil))
   ·
    go_simp
    refine hK.out _ _ (HALL.out _ HBBA.out).1 (fun hHeld => ?_)
    clear hK K
    refine wpAnyH_ready (rs := [3]) (by kernel_rfl) (by simp) (AllReadyH.cons rfl (fun K hK => ?_) (AllReadyH.nil))
    ·
     refine step_append_in _ rfl (.tmp 50) (.tmp 52) 27 rfl w3.heap.size 45 i0 _ 8 48 Tryd.underlying27 hi0 hz0 hz1 hz2 rfl (by decide) (.slice (some ⟨w3.heap.size + 1, 0, none⟩) 0 0) 0 [] rfl HOBA.out A n c (tsC f.ts) rfl HTL.out (HALL.out _ HBBA.out).2.2.1 HNO.out tsC_mem (by unfold maxLen; omega) (by omega) (HBBA.out.size) ?_
     intro v5 w5 own5 gr5 hv5
     rw [Nat.zero_add, List.nil_append] at own5
     have B5 : Hid (Below w3.heap.size w3 w5) := Lib.hid (HBBA.out.grown gr5 HBBA.out.size (fun k hk => by simp [Value.ownBlock] at hk; omega))
     have HV5 : Hid (∀ k, v5.ownBlock = some k → w3.heap.size ≤ k) := Lib.hid fun k hk => (own5.lt k hk).1
     have HX5 : Hid (Blk w5 w3.heap.size 45 (taskC (FT.new a)).toArray) := Lib.hid (Blk.grown_ HXBA.out gr5 (by simp [Value.ownBlock]))
     clear gr5 hv5
     refine hK.out _ _ (HALL.out _ B5.out).1 (fun hHeld => ?_)
     clear hK K
     refine wpAnyH_ready (rs := [8]) (by kernel_rfl) (by simp) (AllReadyH.cons rfl (fun K hK => ?_) AllReadyH.nil)
     refine step_append_lies _ rfl (.tmp 53) (.tmp 57) 27 rfl w3.heap.size 45 i0 _ 8 48 Tryd.underlying27 hi0 hz0 hz1 hz2 rfl (by decide) v5 n (tsC f.ts) rfl (own5) ⟨w3.heap.size, 0, none⟩ 1 1 (taskC (FT.new a)) rfl rfl (fun j u hu => by rw [Addr.add_mid, Nat.zero_add]; exact (HX5.out.cell j).trans (by rw [List.getElem?_toArray]; exact hu)) (taskC_one _) (by decide) (by unfold maxLen; omega) (by omega) (B5.out.size) _ rfl ?_
     intro g cap w6 own6 gr6 hg6 hl6
     have B6 : Hid (Below w3.heap.size w3 w6) := Lib.hid (B5.out.grown gr6 B5.out.size HV5.out)
     have f6 := HALL.out w6 B6.out
     have f61 := f6.1; have f62 := f6.2.1; have f63 := f6.2.2.2
     have hg7 : w3.heap.size ≤ g := (own6.lt g rfl).1
     clear f6
     refine hK.out _ _ f61 (fun hHeld => ?_)
     clear hK K
     refine wpAnyH_take (i := 9) (v := ?_) rfl (by kernel_rfl) (by kernel_rfl) (by kernel_rfl) (fun _ _ _ h => h) (Or.inl ⟨by rfl, fun X hX => by (go_simp <;> with_reducible rfl)⟩) hHeld ?_
     go_simp
     refine wpAnyH_ready (rs := [10]) (by kernel_rfl) (by simp) (AllReadyH.cons rfl (fun K hK => ?_) AllReadyH.nil)
     go_simp
     refine hK.out _ _ (HST.out w6 f61 _) (fun hHeld => ?_)
     clear hK K
     have HX := Lib.hid (HFIN.out g cap w6 own6 B6.out hg7)
     obtain ⟨old, hbr, hold⟩ := HX.out.2.1
     have HBRX := Lib.hid hbr; have HOLX := Lib.hid hold
     clear hbr hold
     refine wpAnyH_done (by kernel_rfl) ?_ _
     go_wp2_with (first
      | (with_reducible (show wpList _ _ _ _ _ _); refine ld_flat rfl (.tmp 3) rfl w.heap.size rfl HX.out.1 ?_)
      | (with_reducible (show wpList _ _ _ _ _ _); refine st_flat rfl (.tmp 6) (.tmp 60) rfl (w.heap.size + 1 + 1) rfl rfl rfl rfl old HBRX.out HOLX.out ?_))
     refine ret_flat2 rfl (w.heap.size + 1 + 1) rfl (BF.row HBRX.out) rfl ?_
     exact HX.out.2.2
  ·
   go_simp
   refine hK.out _ _ (HALL.out _ HBB.out).1 (fun hHeld => ?_)
   clear hK K
   refine wpAnyH_ready (rs := [0]) (by kernel_rfl) (by simp) (AllReadyH.cons rfl (fun K hK => ?_) (AllReadyH.nil))
   ·
    go_simp
    refine hK.out _ _ (HALL.out _ HBBA.out).1 (fun hHeld => ?_)
    clear hK K
    refine wpAnyH_ready (rs := [3]) (by kernel_rfl) (by simp) (AllReadyH.cons rfl (fun K hK => ?_) (AllReadyH.nil))
    ·
     refine step_append_in _ rfl (.tmp 50) (.tmp 52) 27 rfl w3.heap.size 45 i0 _ 8 48 Tryd.underlying27 hi0 hz0 hz1 hz2 rfl (by decide) (.slice (some ⟨w3.heap.size + 1, 0, none⟩) 0 0) 0 [] rfl HOBA.out A n c (tsC f.ts) rfl HTL.out (HALL.out _ HBBA.out).2.2.1 HNO.out tsC_mem (by unfold maxLen; omega) (by omega) (HBBA.out.size) ?_
     intro v5 w5 own5 gr5 hv5
     rw [Nat.zero_add, List.nil_append] at own5
     have B5 : Hid (Below w3.heap.size w3 w5) := Lib.hid (HBBA.out.grown gr5 HBBA.out.size (fun k hk => by simp [Value.ownBlock] at hk; omega))
     have HV5 : Hid (∀ k, v5.ownBlock = some k → w3.heap.size ≤ k) := Lib.hid fun k hk => (own5.lt k hk).1
     have HX5 : Hid (Blk w5 w3.heap.size 45 (taskC (FT.new a)).toArray) := Lib.hid (Blk.grown_ HXBA.out gr5 (by simp [Value.ownBlock]))
     clear gr5 hv5
     refine hK.out _ _ (HALL.out _ B5.out).1 (fun hHeld => ?_)
     clear hK K
     refine wpAnyH_ready (rs := [8]) (by kernel_rfl) (by simp) (AllReadyH.cons rfl (fun K hK => ?_) AllReadyH.nil)
     refine step_append_lies _ rfl (.tmp 53) (.tmp 57) 27 rfl w3.heap.size 45 i0 _ 8 48 Tryd.underlying27 hi0 hz0 hz1 hz2 rfl (by decide) v5 n (tsC f.ts) rfl (own5) ⟨w3.heap.size, 0, none⟩ 1 1 (taskC (FT.new a)) rfl rfl (fun j u hu => by rw [Addr.add_mid, Nat.zero_add]; exact (HX5.out.cell j).trans (by rw [List.getElem?_toArray]; exact hu)) (taskC_one _) (by decide) (by unfold maxLen; omega) (by omega) (B5.out.size) _ rfl ?_
     intro g cap w6 own6 gr6 hg6 hl6
     have B6 : Hid (Below w3.heap.size w3 w6) := Lib.hid (B5.out.grown gr6 B5.out.size HV5.out)
     have f6 := HALL.out w6 B6.out
     have f61 := f6.1; have f62 := f6.2.1; have f63 := f6.2.2.2
     have hg7 : w3.heap.size ≤ g := (own6.lt g rfl).1
     clear f6
     refine hK.out _ _ f61 (fun hHeld => ?_)
     clear hK K
     refine wpAnyH_take (i := 9) (v := ?_) rfl (by kernel_rfl) (by kernel_rfl) (by kernel_rfl) (fun _ _ _ h => h) (Or.inl ⟨by rfl, fun X hX => by (go_simp <;> with_reducible rfl)⟩) hHeld ?_
     go_simp
     refine wpAnyH_ready (rs := [10]) (by kernel_rfl) (by simp) (AllReadyH.cons rfl (fun K hK => ?_) AllReadyH.nil)
     go_simp
     refine hK.out _ _ (HST.out w6 f61 _) (fun hHeld => ?_)
     clear hK K
     have HX := Lib.hid (HFIN.out g cap w6 own6 B6.out hg7)
     obtain ⟨old, hbr, hold⟩ := HX.out.2.1
     have HBRX := Lib.hid hbr; have HOLX := Lib.hid hold
     clear hbr hold
     refine wpAnyH_done (by kernel_rfl) ?_ _
     go_wp2_with (first
      | (with_reducible (show wpList _ _ _ _ _ _); refine ld_flat rfl (.tmp 3) rfl w.heap.size rfl HX.out.1 ?_)
      | (with_reducible (show wpList _ _ _ _ _ _); refine st_flat rfl (.tmp 6) (.tmp 60) rfl (w.heap.size + 1 + 1) rfl rfl rfl rfl old HBRX.out HOLX.out ?_))
     refine ret_flat2 rfl (w.heap.size + 1 + 1) rfl (BF.row HBRX.out) rfl ?_
     exact HX.out.2.2
end
end Go.Proofs.YtilaalleiiakoaaDoor
