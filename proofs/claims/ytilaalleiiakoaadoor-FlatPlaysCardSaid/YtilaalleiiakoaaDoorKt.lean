/- What any event does to a machine; a row of tasks, or of numbers, cloned (layer 19). -/
import Derived.Test.YtilaalleiiakoaaDoorKs
import Derived.Laws.AppendOwn
import Derived.Lib.SliceRun
import Derived.Deep.RegionHeld
import Derived.OrdersHeld
namespace Go.Proofs.YtilaalleiiakoaaDoor
open Go.RowKit
set_option maxRecDepth 100000

theorem turn_any {w : World} {B : Nat} {F O : Value} {f : Fl} {PA : Option Addr} {ps : List PR} (h : OwnF w B F O f.ts f.ow) (pcap : Nat) (hl : f.ts.length ≤ 1000) (hG : Gnd w B PA ps) (ht : In64F f.tm) (e : EvP) (he : In64F e.a) :
    Calls Tryd.prog 25 #[flV F O f.p f.tm, .slice PA ps.length pcap, evV e] w (FlG w B F O f (turnP f ps e)) := by
  obtain ⟨kd, tk, cpu, a, b⟩ := e
  dsimp only at he
  by_cases h17 : kd = 17
  · subst h17; exact turn_17 h pcap tk cpu a b
  by_cases h18 : kd = 18
  · subst h18; exact turn_18 h pcap tk cpu a b
  by_cases h19 : kd = 19
  · subst h19; exact turn_19 h pcap tk cpu a b
  by_cases h20 : kd = 20
  · subst h20; exact turn_20 h pcap tk cpu a b
  by_cases h1 : kd = 1
  · subst h1; exact turn_1 h pcap tk cpu a b hl hG.le
  by_cases h14 : kd = 14
  · subst h14; exact turn_14 h pcap tk cpu a b
  by_cases h15 : kd = 15
  · subst h15; exact turn_15 h pcap tk cpu a b hl
  by_cases h16 : kd = 16
  · subst h16; exact turn_16 h pcap tk cpu a b ht he
  by_cases h9 : kd = 9
  · subst h9; exact turn_9 h pcap tk cpu a b
  by_cases h10 : kd = 10
  · subst h10; exact turn_10 h pcap tk cpu a b
  exact turn_task h pcap hl hG kd tk cpu a b ⟨h17, h18, h19, h20, h1, h14, h15, h16, h9, h10⟩
theorem TsIn.flat {w : World} {A : Option Addr} {l : List FT} (h : TsIn w A l) : ∀ j u, (tsC l)[j]? = some u → ∃ b off, A = some ⟨b, off, none⟩ ∧ w.cell? ⟨b, off + j, none⟩ = some u := fun j u hu => by
  have hj : j < l.length * 8 := by have := (List.getElem?_eq_some_iff.1 hu).1; rwa [tsC_len] at this
  obtain ⟨x, hx⟩ : ∃ x, l[j / 8]? = some x := ⟨_, List.getElem?_eq_getElem (by omega)⟩
  obtain ⟨b, off, e, -, hr⟩ := h _ x hx
  have h1 := tsC_get l (j / 8) x hx (j % 8) (Nat.mod_lt _ (by omega))
  rw [show j / 8 * 8 + j % 8 = j by omega, hu] at h1
  refine ⟨b, off, e, ?_⟩
  have := hr (j % 8) u h1.symm
  rwa [show off + j / 8 * 8 + j % 8 = off + j by omega] at this
theorem NumsIn.flat {w : World} {A : Option Addr} {l : List Int} (h : NumsIn w A l) : ∀ j u, (numC l)[j]? = some u → ∃ b off, A = some ⟨b, off, none⟩ ∧ w.cell? ⟨b, off + j, none⟩ = some u := fun j u hu => by
  unfold numC at hu
  rw [List.getElem?_map] at hu
  obtain ⟨x, hx, rfl⟩ := Option.map_eq_some_iff.1 hu
  obtain ⟨b, off, e, -, hc⟩ := h j x hx
  exact ⟨b, off, e, hc⟩
theorem infoIntN : (Tryd.prog.info? 3).map (fun i => (i.zero, i.size, i.bytes)) = some (some (.int .i64 0), 1, 8) := by kernel_rfl
/-- A row of the call's own that says the same. -/
def CloP (w : World) (t : TypeId) (sz n : Nat) (xs : List Value) (e : Ending) (w' : World) : Prop := ∃ v, e = .returned v ∧ w'.ownsRow w.heap.size t sz v n xs ∧ Below w.heap.size w w'
set_option maxHeartbeats 1000000 in
theorem cloneT_any {w : World} (A : Option Addr) (ts : List FT) (cap : Nat) (hl : ts.length ≤ 1000) (h : TsIn w A ts) :
    Calls Tryd.prog 35 #[.slice A ts.length cap] w (CloP w 45 8 ts.length (tsC ts)) := by
  obtain ⟨i0, hi, hz0, hz1, hz2⟩ := info_parts infoTaskZ
  have q22 : ∀ (w : World) (a : Option Addr) (n c n' c' : Nat), (binOp .eql 27 (.slice a n c) (.slice none n' c')).run Tryd.prog w = .ok (.bool a.isNone) w := fun w a n c n' c' => Lib.run_eql_slice_nil w _ _ a n c n' c' Tryd.underlying27
  cases A with
  | none =>
    have : ts = [] := by
      cases ts with
      | nil => rfl
      | cons x r => obtain ⟨b, off, e, -⟩ := h 0 x rfl; cases e
    subst this
    go_enter Tryd.func35, Tryd.ntmps35
    go_wp2_with fail
    go_ret
    exact ⟨_, rfl, World.ownsRow_nil _ _ _ _, Below.refl _ _⟩
  | some ad =>
    have hflat : ∀ j u, (tsC ts)[j]? = some u → (w.alloc (.cells #[] 45)).cell? (ad.add j) = some u := fun j u hu => by
      obtain ⟨b, off, e, hc⟩ := h.flat j u hu
      obtain rfl := Option.some.inj e
      rw [Addr.add_mid]
      exact (((Below.refl w.heap.size w).alloc (Nat.le_refl _) _).cell (p := ⟨b, off + j, none⟩) (lt_of_cell hc)).trans hc
    have HF := Lib.hid hflat
    have hsl := tsC_len ts
    have hone := tsC_mem (ts := ts)
    have HL := Lib.hid hsl; have HO := Lib.hid hone
    clear h hflat hsl hone
    generalize tsC ts = xs at *
    generalize ts.length = n at *
    go_enter Tryd.func35, Tryd.ntmps35
    go_wp2_with (at_builtin; go_loud (refine wpList_append_own _ rfl _ _ 27 rfl w.heap.size 45 i0 _ 8 48 Tryd.underlying27 hi hz0 hz1 hz2 rfl (by decide) _ 0 [] rfl (World.ownsRow_made w #[] 0 (Nat.le_refl _) (Nat.zero_le _) rfl) ad n cap xs rfl HL.out HF.out HO.out (by unfold maxLen; omega) (by omega) (by simp) ?_); intro v' w1 hown hgrow hnil; have HW := Lib.hid hown; have HG := Lib.hid hgrow; clear hown hgrow hnil)
    go_ret
    refine ⟨_, rfl, ?_, ?_⟩
    · have := HW.out; rwa [Nat.zero_add, List.nil_append] at this
    · exact (((Below.refl w.heap.size w).alloc (Nat.le_refl _) _)).grown HG.out (by simp) (fun k hk => by have h9 : w.heap.size = k := Option.some.inj hk; omega)
set_option maxHeartbeats 1000000 in
theorem cloneN_any {w : World} (A : Option Addr) (l : List Int) (cap : Nat) (hl : l.length ≤ 1000) (h : NumsIn w A l) :
    Calls Tryd.prog 36 #[.slice A l.length cap] w (CloP w 3 1 l.length (numC l)) := by
  obtain ⟨i0, hi, hz0, hz1, hz2⟩ := info_parts infoIntN
  have q22 : ∀ (w : World) (a : Option Addr) (n c n' c' : Nat), (binOp .eql 28 (.slice a n c) (.slice none n' c')).run Tryd.prog w = .ok (.bool a.isNone) w := fun w a n c n' c' => Lib.run_eql_slice_nil w _ _ a n c n' c' Tryd.underlying28
  cases A with
  | none =>
    have : l = [] := by
      cases l with
      | nil => rfl
      | cons x r => obtain ⟨b, off, e, -⟩ := h 0 x rfl; cases e
    subst this
    go_enter Tryd.func36, Tryd.ntmps36
    go_wp2_with fail
    go_ret
    exact ⟨_, rfl, World.ownsRow_nil _ _ _ _, Below.refl _ _⟩
  | some ad =>
    have hflat : ∀ j u, (numC l)[j]? = some u → (w.alloc (.cells #[] 3)).cell? (ad.add j) = some u := fun j u hu => by
      obtain ⟨b, off, e, hc⟩ := h.flat j u hu
      obtain rfl := Option.some.inj e
      rw [Addr.add_mid]
      exact (((Below.refl w.heap.size w).alloc (Nat.le_refl _) _).cell (p := ⟨b, off + j, none⟩) (lt_of_cell hc)).trans hc
    have HF := Lib.hid hflat
    have hsl : (numC l).length = l.length * 1 := by rw [numC_length, Nat.mul_one]
    have hone : ∀ v ∈ numC l, v.oneCell' = true := fun v hv => by
      unfold numC at hv
      obtain ⟨x, -, rfl⟩ := List.mem_map.1 hv
      rfl
    have HL := Lib.hid hsl; have HO := Lib.hid hone
    clear h hflat hsl hone
    generalize numC l = xs at *
    generalize l.length = n at *
    go_enter Tryd.func36, Tryd.ntmps36
    go_wp2_with (at_builtin; go_loud (refine wpList_append_own _ rfl _ _ 28 rfl w.heap.size 3 i0 _ 1 8 Tryd.underlying28 hi hz0 hz1 hz2 rfl (by decide) _ 0 [] rfl (World.ownsRow_made w #[] 0 (Nat.le_refl _) (Nat.zero_le _) rfl) ad n cap xs rfl HL.out HF.out HO.out (by unfold maxLen; omega) (by omega) (by simp) ?_); intro v' w1 hown hgrow hnil; have HW := Lib.hid hown; have HG := Lib.hid hgrow; clear hown hgrow hnil)
    go_ret
    refine ⟨_, rfl, ?_, ?_⟩
    · have := HW.out; rwa [Nat.zero_add, List.nil_append] at this
    · exact (((Below.refl w.heap.size w).alloc (Nat.le_refl _) _)).grown HG.out (by simp) (fun k hk => by have h9 : w.heap.size = k := Option.some.inj hk; omega)

set_option maxRecDepth 100000

/-- A machine's rows that may be read. -/
structure InF (w : World) (F O : Value) (ts : List FT) (ow : List Int) : Prop where
  tk : ∃ A cap, F = .slice A ts.length cap ∧ TsIn w A ts
  ow : ∃ A cap, O = .slice A ow.length cap ∧ NumsIn w A ow
section
variable {w w' : World} {F O : Value} {ts : List FT} {ow : List Int} {B : Nat} {p : Nat → Bool} {t : Int}
theorem InF.below (h : InF w F O ts ow) (hb : Below w.heap.size w w') : InF w' F O ts ow := by
  obtain ⟨⟨A, c, e, h1⟩, A', c', e', h2⟩ := h
  exact ⟨⟨A, c, e, h1.below hb⟩, A', c', e', h2.below hb⟩
theorem OwnF.inF (h : OwnF w B F O ts ow) : InF w F O ts ow := ⟨own_tsIn h.tk, own_numsIn h.ow⟩
theorem InF.one (h : InF w F O ts ow) : F.oneCell' = true ∧ O.oneCell' = true := by
  obtain ⟨⟨A, c, rfl, -⟩, A', c', rfl, -⟩ := h
  exact ⟨rfl, rfl⟩
theorem own_raise {e : TypeId} {sz n C : Nat} {v : Value} {xs : List Value} (h : w.ownsRow B e sz v n xs) (hC : ∀ k, v.ownBlock = some k → C ≤ k) : w.ownsRow C e sz v n xs := by
  refine ⟨h.1, ?_⟩
  rcases h.2 with hn | ⟨g, cap, cur, rfl, hbb, rest⟩
  · exact .inl hn
  · exact .inr ⟨g, cap, cur, rfl, hC g rfl, rest⟩
theorem OwnF.raise {C : Nat} (h : OwnF w B F O ts ow) (hC : ∀ k, OwnB F O k → C ≤ k) : OwnF w C F O ts ow := ⟨own_raise h.tk fun k hk => hC k (.inl hk), own_raise h.ow fun k hk => hC k (.inr hk)⟩
/-- A machine with lists of its own. -/
def AneG (w : World) (p : Nat → Bool) (t : Int) (ts : List FT) (ow : List Int) (e : Ending) (w' : World) : Prop :=
  ∃ F O, e = .returned (flV F O p t) ∧ OwnF w' w.heap.size F O ts ow ∧ Below w.heap.size w w'
set_option maxHeartbeats 4000000 in
theorem anew_any (h : InF w F O ts ow) (hl : ts.length ≤ 1000) (hm : ow.length ≤ 1000) :
    Calls Tryd.prog 24 #[flV F O p t] w (AneG w p t ts ow) := by
  have hfr := FrT.new w F O p t #[.slice none 0 0, .int .u64 0, .int .u64 0, .int .u64 0, .int .u64 0, .int .u64 0, .int .u64 0, .int .u64 0, .int .u64 0, .int .u64 0, .int .u64 0, .int .u64 0, .int .u64 0, .int .u64 0, .int .u64 0, .int .u64 0, .int .u64 0, .slice none 0 0, .int .i64 0] rfl
  have HH := Lib.hid h
  clear h
  go_enter Tryd.func24, Tryd.ntmps24
  go_upto_region 1 with fail
  generalize (w.alloc (.cells (flL F O p t).toArray 30)).alloc (.cells #[.slice none 0 0, .int .u64 0, .int .u64 0, .int .u64 0, .int .u64 0, .int .u64 0, .int .u64 0, .int .u64 0, .int .u64 0, .int .u64 0, .int .u64 0, .int .u64 0, .int .u64 0, .int .u64 0, .int .u64 0, .int .u64 0, .int .u64 0, .slice none 0 0, .int .i64 0] 30) = W at *
  have c0 := BF.c0 hfr.bf
  have c17 := BF.c17 hfr.bf
  have HFR := Lib.hid hfr
  have HTC : Hid (∀ X, Below W.heap.size W X → Calls Tryd.prog 35 #[F] X (CloP X 45 8 ts.length (tsC ts))) := fun X hX => by
    obtain ⟨⟨A, c, e, h1⟩, -⟩ := (HH.out.below HFR.out.bl).below hX
    rw [e]; exact cloneT_any A ts c hl h1
  have HNC : Hid (∀ X, Below W.heap.size W X → Calls Tryd.prog 36 #[O] X (CloP X 3 1 ow.length (numC ow))) := fun X hX => by
    obtain ⟨-, A, c, e, h1⟩ := (HH.out.below HFR.out.bl).below hX
    rw [e]; exact cloneN_any A ow c hm h1
  have HWD := Lib.hid ((Below.refl W.heap.size W).drew)
  have HS : Hid (∀ X, Below W.heap.size W X → X.cell? ⟨w.heap.size, 0, none⟩ = some F ∧ X.cell? ⟨w.heap.size, 17, none⟩ = some O ∧ X.frozen? ⟨w.heap.size, 0, none⟩ = false ∧ X.frozen? ⟨w.heap.size, 17, none⟩ = false) := fun X hX => by
    have hb := Blk.below HFR.out.bf hX (Blk.lt HFR.out.bf)
    exact ⟨BF.c0 hb, BF.c17 hb, BF.free hb 0, BF.free hb 17⟩
  clear hfr
  go_region_with (first
    | (go_at_call 35; (with_reducible refine (HTC.out _ HWD.out).mono ?_); rintro e w3 ⟨F', rfl, h3, hb3⟩; obtain ⟨A3, k3, rfl, -⟩ := own_tsIn h3; have HB3 := Lib.hid (HWD.out.trans (hb3.mono HWD.out.size)); have H3 := Lib.hid h3; obtain ⟨s0, s1, s2, s3⟩ := HS.out w3 HB3.out; clear h3 hb3)
    | (go_at_call 36; (with_reducible refine (HNC.out _ HB3.out).mono ?_); rintro e w4 ⟨O', rfl, h4, hb4⟩; obtain ⟨A4, k4, rfl, -⟩ := own_numsIn h4; have HB4 := Lib.hid (HB3.out.trans (hb4.mono HB3.out.size)); have H4 := Lib.hid h4; obtain ⟨r0, r1, r2, r3⟩ := HS.out w4 HB4.out; have H34 := Lib.hid hb4; clear h4 hb4))
  all_goals
    obtain ⟨old, hbr, hold⟩ := (HFR.out.on HB4.out).br
    have hbf : BF ((w4.setCell ⟨w.heap.size, 0, none⟩ (.slice A3 ts.length k3)).setCell ⟨w.heap.size, 17, none⟩ (.slice A4 ow.length k4)) w.heap.size (.slice A3 ts.length k3) (.slice A4 ow.length k4) p t := by
      have h0 := Blk.set_ (Blk.below HFR.out.bf HB4.out (Blk.lt HFR.out.bf)) 0 (.slice A3 ts.length k3)
      rw [List.setIfInBounds_toArray, flL_set0] at h0
      have h1 := Blk.set_ h0 17 (.slice A4 ow.length k4)
      rw [List.setIfInBounds_toArray, flL_set17] at h1
      exact h1
    have hbq : Blk ((w4.setCell ⟨w.heap.size, 0, none⟩ (.slice A3 ts.length k3)).setCell ⟨w.heap.size, 17, none⟩ (.slice A4 ow.length k4)) (w.heap.size + 1) 30 old := (hbr.far (by simp) _).far (by simp) _
    have HBF := Lib.hid hbf; have HBQ := Lib.hid hbq; have HOL := Lib.hid hold
    have HLO := Lib.hid hbr.lt
    clear hbf hbq hbr hold
    go_wp2_with (first
      | (with_reducible (show wpList _ _ _ _ _ _); refine ld_flat rfl (.tmp 1) rfl w.heap.size rfl HBF.out ?_)
      | (with_reducible (show wpList _ _ _ _ _ _); refine st_flat rfl (.tmp 2) (.tmp 11) rfl (w.heap.size + 1) rfl rfl rfl rfl old HBQ.out HOL.out ?_))
    refine ret_flat1 rfl (w.heap.size + 1) rfl (BF.row HBQ.out) rfl ?_
    refine ⟨_, _, rfl, ?_, ?_⟩
    · have hwl : w.heap.size ≤ W.heap.size := HFR.out.bl.size
      have hWl : w.heap.size + 1 < W.heap.size := by obtain ⟨o2, h2, -⟩ := HFR.out.br; exact h2.lt
      have ho4 : OwnF w4 W.heap.size (.slice A3 ts.length k3) (.slice A4 ow.length k4) ts ow := by
        refine ⟨row_but (own_raise H3.out fun k hk => Nat.le_trans HWD.out.size (H3.out.lt k hk).1) (But.of_below (X := Nob) H34.out) fun _ _ q => q, own_raise H4.out fun k hk => Nat.le_trans HB3.out.size (H4.out.lt k hk).1⟩
      have hs : But (fun k => k < W.heap.size) w4 (((w4.setCell ⟨w.heap.size, 0, none⟩ (.slice A3 ts.length k3)).setCell ⟨w.heap.size, 17, none⟩ (.slice A4 ow.length k4)).setRow (w.heap.size + 1) (flL (.slice A3 ts.length k3) (.slice A4 ow.length k4) p t).toArray) :=
        (((But.refl (fun k => k < W.heap.size) w4).set ⟨w.heap.size, 0, none⟩ _ (.inl (by show w.heap.size < W.heap.size; omega))).set ⟨w.heap.size, 17, none⟩ _ (.inl (by show w.heap.size < W.heap.size; omega))).row _ _ (.inl (by show w.heap.size + 1 < W.heap.size; omega))
      exact (ho4.but hs fun k hk q => by have := (ho4.lt hk).1; omega).raise fun k hk => by have := (ho4.lt hk).1; omega
    · exact ((((But.of_below (X := fun k => w.heap.size ≤ k) (HFR.out.bl.trans (HB4.out.mono HFR.out.bl.size))).set _ _ (.inr (Nat.le_refl _))).set _ _ (.inr (Nat.le_refl _))).row _ _ (.inr (by simp))).below (Nat.le_refl _) fun k _ q => q
end

set_option maxRecDepth 100000

/-- The machine behind an event, if that may be. -/
def NexG (w : World) (f : Fl) (R : Option Fl) (e : Ending) (w' : World) : Prop :=
  ∃ F O, e = .returned (.tuple #[flV F O (R.getD f).p (R.getD f).tm, .bool R.isSome]) ∧ OwnF w' w.heap.size F O (R.getD f).ts (R.getD f).ow ∧ Below w.heap.size w w'
section
variable {w : World} {B : Nat} {F O : Value} {f : Fl} {PA : Option Addr} {ps : List PR}
set_option maxHeartbeats 4000000 in
theorem next_any (h : InF w F O f.ts f.ow) (pcap : Nat) (hl : f.ts.length ≤ 1000) (hm : f.ow.length ≤ 1000) (hG : Gnd w B PA ps) (ht : In64F f.tm) (e : EvP) (he : In64F e.a) :
    Calls Tryd.prog 14 #[flV F O f.p f.tm, .slice PA ps.length pcap, evV e] w (NexG w f (turnP f ps e)) := by
  have hfr := FrU.new w F O f.p f.tm e #[.slice none 0 0, .int .u64 0, .int .u64 0, .int .u64 0, .int .u64 0, .int .u64 0, .int .u64 0, .int .u64 0, .int .u64 0, .int .u64 0, .int .u64 0, .int .u64 0, .int .u64 0, .int .u64 0, .int .u64 0, .int .u64 0, .int .u64 0, .slice none 0 0, .int .i64 0] rfl
  have HH := Lib.hid h
  obtain ⟨R, hR⟩ : ∃ R, turnP f ps e = R := ⟨_, rfl⟩
  have HTU : Hid (∀ X F' O', Below w.heap.size w X → OwnF X w.heap.size F' O' f.ts f.ow → Calls Tryd.prog 25 #[.agg (flL F' O' f.p f.tm).toArray, .slice PA ps.length pcap, .agg #[.int .i64 e.kd, .int .i64 e.tk, .int .i64 e.cpu, .int .i64 e.a, .int .i64 e.b]] X (FlG X B F' O' f R)) := fun X F' O' hX ho => by
    rw [← hR]; exact turn_any (ho.raise fun k hk => Nat.le_trans hG.le (ho.lt hk).1) pcap hl (hG.below (hX.mono hG.le)) ht e he
  rw [hR]
  clear h hR
  go_enter Tryd.func14, Tryd.ntmps14
  go_upto_region 1 with fail
  generalize ((w.alloc (.cells (flL F O f.p f.tm).toArray 30)).alloc (.cells #[.int .i64 e.kd, .int .i64 e.tk, .int .i64 e.cpu, .int .i64 e.a, .int .i64 e.b] 36)).alloc (.cells #[.slice none 0 0, .int .u64 0, .int .u64 0, .int .u64 0, .int .u64 0, .int .u64 0, .int .u64 0, .int .u64 0, .int .u64 0, .int .u64 0, .int .u64 0, .int .u64 0, .int .u64 0, .int .u64 0, .int .u64 0, .int .u64 0, .int .u64 0, .slice none 0 0, .int .i64 0] 30) = W at *
  have HFR := Lib.hid hfr
  obtain ⟨e0, e1, e2, e3, e4⟩ := hfr.ev
  obtain ⟨old, hbr, hold⟩ := hfr.br
  have HOL := Lib.hid hold; have HBR := Lib.hid hbr
  have HAN : Hid (∀ X, Below W.heap.size W X → Calls Tryd.prog 24 #[.agg (flL F O f.p f.tm).toArray] X (AneG X f.p f.tm f.ts f.ow)) := fun X hX => anew_any ((HH.out.below HFR.out.bl).below hX) hl hm
  have HB := Lib.hid hfr.bl; have HBF := Lib.hid hfr.bf
  clear hbr hold hfr
  obtain ⟨q0, hq0⟩ : ∃ q, w.heap.size = q := ⟨_, rfl⟩
  obtain ⟨q1, hq1⟩ : ∃ q, w.heap.size + 1 = q := ⟨_, rfl⟩
  obtain ⟨q2, hq2⟩ : ∃ q, w.heap.size + 1 + 1 = q := ⟨_, rfl⟩
  have HQE : Hid (w.heap.size = q0 ∧ q0 < q1 ∧ q1 < q2 ∧ w.heap.size ≤ q2 ∧ q2 < W.heap.size) := ⟨hq0, by omega, by omega, by omega, by have := HBR.out.lt; omega⟩
  rw [hq1] at e0 e1 e2 e3 e4
  rw [hq2] at HBR
  rw [hq0] at HBF
  rw [hq2, hq1, hq0]
  clear hq0 hq1 hq2
  have HS : Hid (∀ Y X, (∀ k, Y k → k ≠ q0 ∧ k ≠ q1) → But Y W X → (X.cell? ⟨q1, 0, none⟩ = some (.int .i64 e.kd) ∧ X.cell? ⟨q1, 1, none⟩ = some (.int .i64 e.tk) ∧ X.cell? ⟨q1, 2, none⟩ = some (.int .i64 e.cpu) ∧ X.cell? ⟨q1, 3, none⟩ = some (.int .i64 e.a) ∧ X.cell? ⟨q1, 4, none⟩ = some (.int .i64 e.b)) ∧ X.rangeAt q0 0 (flL F O f.p f.tm)) := fun Y X hY hb => by
    have n1 : ¬ Y q1 := fun q => (hY _ q).2 rfl
    have n0 : ¬ Y q0 := fun q => (hY _ q).1 rfl
    have l1 := lt_of_cell e0
    have hf := Blk.but HBF.out hb n0
    exact ⟨⟨(hb.cell0 l1 n1).trans e0, (hb.cell0 l1 n1).trans e1, (hb.cell0 l1 n1).trans e2, (hb.cell0 l1 n1).trans e3, (hb.cell0 l1 n1).trans e4⟩, BF.all hf⟩
  refine wp_region_held_drew (S := fun X => (X.cell? ⟨q1, 0, none⟩ = some (.int .i64 e.kd) ∧ X.cell? ⟨q1, 1, none⟩ = some (.int .i64 e.tk) ∧ X.cell? ⟨q1, 2, none⟩ = some (.int .i64 e.cpu) ∧ X.cell? ⟨q1, 3, none⟩ = some (.int .i64 e.a) ∧ X.cell? ⟨q1, 4, none⟩ = some (.int .i64 e.b)) ∧ X.rangeAt q0 0 (flL F O f.p f.tm)) (by kernel_rfl) (HS.out Nob _ (fun _ q => q.elim) ((But.refl _ _).drew)) (fun hHeld => ?_)
  show wpAnyH _ _ _ _ _ _ _ _ _
  try dsimp only at hHeld
  refine wpAnyH_take (i := 0) (v := .agg (flL F O f.p f.tm).toArray) rfl (by kernel_rfl) (by kernel_rfl) (by kernel_rfl) (fun _ _ _ h => h) (yieldsIf_load_mid (by rfl) 30 (.tmp 3) rfl q0 0 rfl (flL F O f.p f.tm) _ (fun X' h => h.2) under30 rfl (by rw [infoFlat, flL_len])) hHeld ?_
  go_simp
  refine wpAnyH_take (i := 2) (v := ?_) rfl (by kernel_rfl) (by kernel_rfl) (by kernel_rfl) (fun _ _ _ h => h) (Or.inl ⟨by rfl, fun X hX => by (obtain ⟨⟨z0, z1, z2, z3, z4⟩, z6⟩ := hX; go_simp <;> with_reducible rfl)⟩) hHeld ?_
  go_simp
  refine wpAnyH_take (i := 3) (v := ?_) rfl (by kernel_rfl) (by kernel_rfl) (by kernel_rfl) (fun _ _ _ h => h) (Or.inl ⟨by rfl, fun X hX => by (obtain ⟨⟨z0, z1, z2, z3, z4⟩, z6⟩ := hX; go_simp <;> with_reducible rfl)⟩) hHeld ?_
  go_simp
  refine wpAnyH_ready (rs := [1]) (by kernel_rfl) (by simp) (AllReadyH.cons rfl (fun K hK => ?_) AllReadyH.nil)
  go_simp
  go_at_call 24; (with_reducible refine (HAN.out _ ((Below.refl _ _).drew)).mono ?_); rintro er w3 ⟨F3, O3, rfl, h3, hb3⟩; have hb33 := ((Below.refl W.heap.size W).drew).trans hb3; have HB3 := Lib.hid hb33; have hs3 := HS.out Nob w3 (fun _ q => q.elim) (But.of_below hb33); have hBw3 := HB.out.trans (hb33.mono HB.out.size); have HB33 := Lib.hid hBw3; have h3w := h3.raise (C := w.heap.size) (fun k hk => Nat.le_trans HB.out.size (h3.lt hk).1); have HTU3 := Lib.hid (HTU.out w3 F3 O3 hBw3 h3w); have HL3 : Hid (∀ k, OwnB F3 O3 k → W.heap.size ≤ k) := fun k hk => (h3.lt hk).1; have H3L := Lib.hid h3.one; clear h3 hb3 hb33 hBw3 h3w
  (try (go_wp2_with fail))
  refine hK.out _ _ hs3 (fun hHeld => ?_)
  clear hK K
  (try go_simp)
  refine wpAnyH_ready (rs := [4]) (by kernel_rfl) (by simp) (AllReadyH.cons rfl (fun K hK => ?_) AllReadyH.nil)
  go_simp
  go_at_call 25; (with_reducible refine HTU3.out.mono ?_); rintro er w5 ⟨F5, rfl, h5, hb5, hk5⟩; have hbw := ((But.of_below (X := OwnB F3 O3) HB3.out).trans hb5); have HB5 := Lib.hid hbw; have HBX := Lib.hid ((But.of_below (X := OwnB F3 O3) HB33.out).trans hb5); have HBR5 := Lib.hid (HBR.out.but hbw fun q => by have := HL3.out _ q; have := HQE.out; omega); have hY : ∀ k, OwnB F3 O3 k → k ≠ q0 ∧ k ≠ q1 := (fun k hk => by have := HL3.out k hk; have := HQE.out; omega); have hs5 := HS.out (OwnB F3 O3) w5 hY hbw; have HS5 : Hid (∀ X, But (fun k => k = q2) w5 X → _ ∧ _) := fun X hb => HS.out (fun k => OwnB F3 O3 k ∨ k = q2) X (fun k hk => by rcases hk with q | q; exact hY k q; have := HQE.out; exact ⟨by omega, by omega⟩) ((hbw.mono fun _ _ q => .inl q).trans (hb.mono fun _ _ q => .inr q)); have H5 := Lib.hid h5; have HK5 := Lib.hid hk5; obtain ⟨oF5, oO5⟩ := h5.one; clear h5 hb5 hbw hk5 hY
  (try (go_wp2_with fail))
  refine hK.out _ _ hs5 (fun hHeld => ?_)
  clear hK K
  (try go_simp)
  refine wpAnyH_take (i := 5) (v := ?_) rfl (by kernel_rfl) (by kernel_rfl) (by kernel_rfl) (fun _ _ _ h => h) (Or.inl ⟨by rfl, fun X hX => by (obtain ⟨⟨z0, z1, z2, z3, z4⟩, z6⟩ := hX; go_simp <;> with_reducible rfl)⟩) hHeld ?_
  go_simp
  refine wpAnyH_take (i := 6) (v := ?_) rfl (by kernel_rfl) (by kernel_rfl) (by kernel_rfl) (fun _ _ _ h => h) (Or.inl ⟨by rfl, fun X hX => by (obtain ⟨⟨z0, z1, z2, z3, z4⟩, z6⟩ := hX; go_simp <;> with_reducible rfl)⟩) hHeld ?_
  go_simp
  refine wpAnyH_ready (rs := [7]) (by kernel_rfl) (by simp) (AllReadyH.cons rfl (fun K hK => ?_) AllReadyH.nil)
  refine step_st_flat rfl (.tmp 6) (.tmp 13) rfl q2 rfl rfl oF5 oO5 old HBR5.out HOL.out ?_
  refine hK.out _ _ (HS5.out _ ((But.refl (fun k => k = q2) _).row _ _ (.inl rfl))) (fun hHeld => ?_)
  clear hK K
  (try go_simp)
  refine wpAnyH_ready (rs := [8]) (by kernel_rfl) (by simp) (AllReadyH.cons rfl (fun K hK => ?_) AllReadyH.nil)
  go_simp
  refine hK.out _ _ hHeld (fun hHeld => ?_)
  clear hK K
  refine wpAnyH_done (by kernel_rfl) ?_ _
  go_wp2_with fail
  refine ret_flat2 rfl q2 rfl (BF.row HBR5.out) rfl ?_
  have hlow : ∀ k, OwnB F5 O3 k → W.heap.size ≤ k := fun k hk => by
    rcases hk with q | q
    · rcases HK5.out k q with q | q
      · exact HL3.out k (.inl q)
      · have := HB3.out.size; omega
    · exact HL3.out k (.inr q)
  refine ⟨F5, O3, rfl, (H5.out.row q2 _ fun k hk q => ?_).raise fun k hk => ?_, ?_⟩
  · have := hlow k hk; have := HQE.out; omega
  · have := hlow k hk; have := HB.out.size; omega
  · refine ((HBX.out.row q2 _ (.inr HQE.out.2.2.2.1))).below (Nat.le_refl _) fun k _ q => ?_
    have := HL3.out k q; have := HB.out.size; omega
end
end Go.Proofs.YtilaalleiiakoaaDoor
