/- RingGoes' walk. -/
import Derived.Test.YtfkdcnhhdmfaiaaRa
import Derived.RegionCalls
import Derived.Deep.RegionHeld3
import Derived.Deep.DeepCutAuto
namespace Go.Proofs.Ytfkdcnhhdmfaiaa
open Go.RowKit Go.Shelf
attribute [local go_sem] Oper.semAt_some

theorem RgV.butC {b g m room first n : Nat} {V : Nat → Int} {w w' : World} {X : Nat → Prop} (h : RgV b g m room first n V w) (hb : ButC X w w') (h1 : ¬ X b) (h2 : ¬ X g) : RgV b g m room first n V w' :=
  ⟨h.lim, h.hm, h.hn, h.hf, h.ne, h.own.butC hb h1, let ⟨S, a, c, d⟩ := h.row; ⟨S, a, c.butC hb h2, d⟩⟩
theorem Rg.butC {b : Nat} {G : Option Nat} {l : List Int} {room : Nat} {w w' : World} {X : Nat → Prop} (h : Rg b G l room w) (hb : ButC X w w') (hX : ∀ k, Own2 b G k → ¬ X k) : Rg b G l room w' := by
  rcases h with ⟨e, rfl, hr, h⟩ | ⟨g, m, first, V, rfl, h, hV⟩
  · exact .inl ⟨e, rfl, hr, h.butC hb (hX b (.inl rfl))⟩
  · exact .inr ⟨g, m, first, V, rfl, h.butC hb (hX b (.inl rfl)) (hX g (.inr rfl)), hV⟩
theorem own_butC {W W' : World} {row : Option Nat} (hg : W.grownBy W' row) (hr : ∀ r, row = some r → ∃ o : Obj, W.heap[r]? = some o ∧ o.isCells = false) : ButC Nob W W' := by
  refine ⟨hg.size, fun g cs t f _ h => ?_⟩
  refine (hg.block g (Array.getElem?_eq_some_iff.1 h).1 (fun e => ?_)).trans h
  obtain ⟨o, ho, hc⟩ := hr g e.symm
  rw [h] at ho; cases ho; cases hc
/-- A piece of a row of numbers. -/
def seg (z : Nat → Int) (a c : Nat) : List Int := zs (fun j => z (j + a)) c
theorem seg_length (z : Nat → Int) (a c : Nat) : (seg z a c).length = c := zs_length _ _
theorem seg_cons (z : Nat → Int) (a c : Nat) : seg z a (c + 1) = z a :: seg z (a + 1) c := by
  unfold seg; rw [zs_cons, Nat.zero_add]
  congr 1
  unfold zs
  exact List.map_congr_left fun i _ => by rw [show i + 1 + a = i + (a + 1) by omega]
theorem seg_snoc (z : Nat → Int) (a c : Nat) : seg z a c ++ [z (c + a)] = seg z a (c + 1) := by unfold seg; rw [zs_succ]
theorem seg_tl (z : Nat → Int) (a c : Nat) : tl (seg z a c) 0 = seg z a c := by
  cases c with
  | zero => rfl
  | succ c => exact tl_some (fr := 0) (by rw [seg_length]; omega)
theorem seg_get (z : Nat → Int) (a c k : Nat) (h : k < c) : (seg z a c)[k]?.getD 0 = z (k + a) := by unfold seg; exact zs_get h
/-- What lies in memory while RingGoes runs. -/
structure GS (w : World) (A : Option Addr) (N cap b c6 : Nat) (G : Option Nat) (l : List Int) (M : Nat) (W : World) : Prop where
  s0 : Blk W w.heap.size 27 #[.slice A N cap]
  s1 : Blk W (w.heap.size + 1) 4 #[.bool false]
  s6 : Blk W c6 23 #[ptr (some b)]
  rg : Rg b G l M W
  sep : ∀ k, Own2 b G k → w.heap.size + 2 ≤ k ∧ k ≠ c6
  hc6 : w.heap.size + 2 ≤ c6
  old : But Nob w W
section
variable {w : World} {A : Option Addr} {N cap b c6 : Nat} {G : Option Nat} {l l' : List Int} {M : Nat} {W W' : World}
theorem GS.cells (h : GS w A N cap b c6 G l M W) : W.cell? ⟨w.heap.size, 0, none⟩ = some (.slice A N cap) ∧ W.cell? ⟨c6, 0, none⟩ = some (.pointer (some ⟨b, 0, none⟩)) := ⟨h.s0.cell 0, h.s6.cell 0⟩
theorem GS.turn (h : GS w A N cap b c6 G l M W) (hb : But (Own2 b G) W W') (hr : Rg b G l' M W') : GS w A N cap b c6 G l' M W' :=
  ⟨h.s0.but hb fun x => by have := h.sep _ x; omega, h.s1.but hb fun x => by have := h.sep _ x; omega, h.s6.but hb fun x => (h.sep _ x).2 rfl, hr, h.sep, h.hc6,
    h.old.step hb fun k hk x => by have := h.sep _ x; omega⟩
theorem GS.put (h : GS w A N cap b c6 G l M W) {e : Ending} (hp : PutP b G l' M W e W') : e = .returned (.bool true) ∧ ∃ G', GS w A N cap b c6 G' l' M W' := by
  obtain ⟨he, g, hR, hg, hG⟩ := hp
  refine ⟨he, some g, h.s0.but hG fun x => by have := h.sep _ x; omega, h.s1.but hG fun x => by have := h.sep _ x; omega, h.s6.but hG fun x => (h.sep _ x).2 rfl, hR, fun k q => ?_, h.hc6,
    h.old.step hG fun k hk x => by have := h.sep _ x; omega⟩
  rcases q with rfl | q
  · exact h.sep _ (.inl rfl)
  · cases q
    rcases hg with hg | hg
    · exact h.sep _ hg
    · have := h.s6.lt; have := h.hc6; omega
theorem GS.ints {z : Nat → Int} (h : GS w A N cap b c6 G l M W) (hI : IntsIn w A N z) : IntsIn W A N z := hI.below (h.old.below (Nat.le_refl _) fun _ _ x => x.elim)
end
theorem GS.own_ {w : World} {A : Option Addr} {N cap b c6 : Nat} {G : Option Nat} {l : List Int} {M : Nat} {W W' : World} {row : Option Nat} {B : Nat} (h : GS w A N cap b c6 G l M W) (hB : w.heap.size ≤ B) (hg : W.grownBy W' row)
    (hr : ∀ r, row = some r → B ≤ r ∧ ∃ o : Obj, W.heap[r]? = some o ∧ o.isCells = false) : GS w A N cap b c6 G l M W' := by
  have hr' : ∀ r, row = some r → ∃ o : Obj, W.heap[r]? = some o ∧ o.isCells = false := fun r e => (hr r e).2
  exact ⟨h.s0.own_ hg hr', h.s1.own_ hg hr', h.s6.own_ hg hr', h.rg.butC (own_butC hg hr') fun _ _ x => x, h.sep, h.hc6, h.old.grown hg fun r e => .inr (Nat.le_trans hB (hr r e).1)⟩
theorem GS.far {w : World} {A : Option Addr} {N cap b c6 : Nat} {G : Option Nat} {l : List Int} {M : Nat} {W : World} (h : GS w A N cap b c6 G l M W) (p : Addr) (v : Value) (hp : w.heap.size + 2 ≤ p.block) (h6 : p.block ≠ c6) (ho : ¬ Own2 b G p.block) : GS w A N cap b c6 G l M (W.setCell p v) :=
  ⟨h.s0.far (by omega) _, h.s1.far (by omega) _, h.s6.far (by omega) _, h.rg.but (X := fun k => k = p.block) ((But.refl _ _).set _ _ (.inl rfl)) (fun k hk e => ho (by rw [← e]; exact hk)), h.sep, h.hc6, h.old.set _ _ (.inr (by omega))⟩
theorem But.from {X : Nat → Prop} {W W' : World} (h : But X W W') {B : Nat} (hX : ∀ k, X k → k < B) : KeepsFrom B W W' :=
  ⟨h.size, fun k _ hB hk _ => (h.block k (Array.getElem?_eq_some_iff.1 hk).1 (fun x => by have := hX k x; omega)).trans hk⟩
/-- What holds between two rounds of RingGoes' loop. -/
def GoesI (w : World) (A : Option Addr) (N cap c6 : Nat) (G : Option Nat) (z : Nat → Int) (a c M kb : Nat) (pre : List (Int × Int)) (W : World) : Prop :=
  ∃ q : Nat, q = a + pre.length ∧ GS w A N cap (w.heap.size + 2) c6 G (seg z q (a + c - q)) M W ∧ Blk W kb 3 #[.int .i64 q]
theorem goesI_own (w : World) (A : Option Addr) (N cap c6 : Nat) (G : Option Nat) (z : Nat → Int) (a c M kb B : Nat) (hB : w.heap.size ≤ B) : OwnFrom B (GoesI w A N cap c6 G z a c M kb) := by
  rintro s W W' row ⟨q, e, h, hk⟩ hg hr
  exact ⟨q, e, h.own_ hB hg hr, hk.own_ hg fun r e => (hr r e).2⟩
set_option maxRecDepth 100000 in
set_option maxHeartbeats 4000000 in
theorem goes_any (room : Int) (A : Option Addr) (len cap : Nat) (z : Nat → Int) (w : World) (hcap : len ≤ cap) (hI : IntsIn w A len z) :
    Calls Try.prog 5 #[.int .i64 room, .slice A len cap] w fun e w' => e = .returned (.bool true) ∧ Below w.heap.size w w' := by
  refine (callsIn_wide (n := 3)).1 ?_
  refine callsIn_of_wp_marks Try.func5 rfl trivial ?_ rfl
  refine wpIn_wide.2 ?_
  simp only [Try.ntmps5, List.size_toArray, List.length_cons, List.length_nil, Nat.reduceAdd, Nat.reduceSub, Array.replicate_succ, Array.replicate_zero, List.push_toArray, List.append_toArray, List.nil_append, List.cons_append]
  go_upto_region 1 with fail
  go_cut [3] from 17 to 21 (fun t wx => ∃ N : Nat, N ≤ 200 ∧ N ≤ len ∧ t = .pointer (some ⟨w.heap.size, 0, none⟩) ∧ wx = (w.alloc (.cells #[.slice A N cap] 27)).alloc (.cells #[.bool false] 4))
  case first =>
    by_cases h200 : len ≤ 200
    · have t0 : ¬ (200 : Int) < len := by omega
      have t1 : (0 : Int) ≤ len := by omega
      have t2 : (len : Int) ≤ cap := by omega
      go_wp2_with fail
      go_meet
      exact ⟨len, h200, Nat.le_refl _, rfl, rfl⟩
    · have t0 : (200 : Int) < len := by omega
      have t2 : (200 : Int) ≤ cap := by omega
      have t3 : 200 ≤ cap := by omega
      go_wp2_with fail
      go_meet
      exact ⟨200, Nat.le_refl _, by omega, rfl, rfl⟩
  case rest =>
    obtain ⟨N, hN1, hN2, rfl, rfl⟩ := hcut
    go_upto_region 2 with fail
    go_cut [5] from 22 to 24 (fun t wx => ∃ M : Nat, 1 ≤ M ∧ M ≤ 20 ∧ t = .int .i64 M ∧ wx = (w.alloc (.cells #[.slice A N cap] 27)).alloc (.cells #[.bool false] 4))
    case first =>
      go_wp2_with fail
      all_goals
        go_meet
        first
          | exact ⟨20, by omega, by omega, rfl, rfl⟩
          | exact ⟨1, by omega, by omega, rfl, rfl⟩
          | exact ⟨room.toNat, by omega, by omega, by rw [show ((room.toNat : Nat) : Int) = room by omega], rfl⟩
    case rest =>
      obtain ⟨M, hM1, hM2, rfl, rfl⟩ := hcut
      have HI := Lib.hid (hI.less hN2)
      go_wp2_with fail
      refine (new_any M M (by omega) _).mono ?_
      rintro e w1 ⟨rfl, hR1, hG1⟩
      have hz0 : ((w.alloc (.cells #[.slice A N cap] 27)).alloc (.cells #[.bool false] 4)).heap.size = w.heap.size + 2 := by simp
      rw [hz0] at hR1
      have hgs : GS w A N cap (w.heap.size + 2) w1.heap.size none [] M (w1.alloc (.cells #[.pointer (some ⟨w.heap.size + 2, 0, none⟩)] 23)) := by
        refine ⟨((Blk.new w _ _).alloc _).but (hG1.alloc _) id, ?_, Blk.new _ _ _, hR1.but ((But.refl Nob _).alloc _) (fun _ _ x => x), fun k q => ?_, ?_, ((((But.refl Nob w).alloc _).alloc _).trans hG1).alloc _⟩
        · have := (Blk.new (w.alloc (.cells #[.slice A N cap] 27)) 4 #[.bool false]).but (hG1.alloc (.cells #[.pointer (some ⟨w.heap.size + 2, 0, none⟩)] 23)) id
          rwa [World.size_alloc] at this
        · rcases q with rfl | q
          · exact ⟨Nat.le_refl _, Nat.ne_of_lt hR1.lt⟩
          · cases q
        · have := hR1.lt; omega
      have HGS := Lib.hid hgs
      have hc := hgs.cells.1
      have HR1 := Lib.hid hR1
      clear hgs hG1 hR1 hz0 hI hcap hN2
      simp only [World.size_alloc, Nat.add_assoc, Nat.reduceAdd]
      go_wp2_with fail
      go_loopw [29] (fun t wr => ∃ (i c a : Nat) (G : Option Nat), i ≤ N ∧ t = .int .i64 i ∧ GS w A N cap (w.heap.size + 2) w1.heap.size G (seg z a c) M wr ∧ c = min i M ∧ a = i - c) (fun t _ => N - (intOf t).toNat)
      case atStart => exact ⟨0, 0, 0, none, Nat.zero_le _, rfl, HGS.out, by omega, rfl⟩
      case round =>
        obtain ⟨i, c, a, G, hiN, rfl, hS, hcm, ham⟩ := hrel
        have hc2 := hS.cells.1
        have hc6 := hS.cells.2
        by_cases hlt : i < N
        · obtain ⟨bb, off, rfl, hbb, hcx⟩ := (hS.ints HI.out) i hlt
          have k0 : (0 : Int) ≤ (i : Int) := by omega
          have k1 : (i : Int) < (N : Int) := by omega
          have hlen := len_any (w.heap.size + 2) c wr (by have := hS.rg.head.1; rwa [seg_length] at this)
          have HLEN := Lib.hid hlen; clear hlen
          by_cases hiM : i < M
          · obtain rfl : c = i := by omega
            obtain rfl : a = 0 := by omega
            have tq : ((c : Int) == (M : Int)) = false := by simp; omega
            have hbk := back_ok _ G _ M (z c) wr hS.rg (by rw [seg_length]; exact hiM)
            rw [show seg z 0 c ++ [z c] = seg z 0 (c + 1) from seg_snoc z 0 c] at hbk
            have HBK := Lib.hid hbk; have HS := Lib.hid hS; clear hbk hS hcm ham
            go_wp2_with (go_at_call 26; (with_reducible refine HLEN.out.mono ?_); rintro e wq ⟨rfl, rfl⟩)
            refine HBK.out.mono ?_
            intro e w3 hp
            obtain ⟨rfl, G', hS'⟩ := HS.out.put hp
            have HS' := Lib.hid hS'; clear hp hS' hc2 hc6 hcx
            go_wp2_with fail
            go_roundw
            case rel => exact ⟨c + 1, c + 1, 0, G', by omega, by go_num, HS'.out, by omega, by omega⟩
            case measure => simp [intOf]; omega
          · obtain rfl : c = M := by omega
            have tq : ((c : Int) == (c : Int)) = true := by simp
            have hS0 := hS
            rw [show seg z a c = z a :: seg z (a + 1) (c - 1) by rw [← seg_cons, show c - 1 + 1 = c by omega]] at hS0
            have hfi := first_ok _ G (z a) (seg z (a + 1) (c - 1)) c wr hS0.rg
            have haN : a < N := by omega
            have a0 : (0 : Int) ≤ (a : Int) := by omega
            have a1 : (a : Int) < (N : Int) := by omega
            have qa : IntKind.i64.wrap ((i : Int) - (c : Int)) = (a : Int) := by rw [IntWalk.i64_in _ (by omega)]; omega
            have qa2 : (i : Int) - (c : Int) = (a : Int) := by omega
            have HA : Hid (a = i - c) := ham
            have HFI := Lib.hid hfi; have HS := Lib.hid hS0; clear hfi hS hS0 hcm ham
            go_wp2_with (go_at_call 26; (with_reducible refine HLEN.out.mono ?_); rintro e wq ⟨rfl, rfl⟩)
            refine HFI.out.mono ?_
            rintro e w3 ⟨rfl, hr3, hg3⟩
            have hS3 := HS.out.turn hg3 hr3
            obtain ⟨bb', off', e', hbb', hcx'⟩ := (hS3.ints HI.out) a haN
            cases e'
            have hc2' := hS3.cells.1
            have hc6' := hS3.cells.2
            have hbk := back_ok _ G _ c (z i) w3 hS3.rg (by rw [seg_length]; omega)
            rw [show seg z (a + 1) (c - 1) ++ [z i] = seg z (a + 1) c by rw [show z i = z (c - 1 + (a + 1)) by rw [show c - 1 + (a + 1) = i by omega], seg_snoc, show c - 1 + 1 = c by omega]] at hbk
            have HBK := Lib.hid hbk; have HS3 := Lib.hid hS3; clear hbk hS3 hr3 hg3 hc2 hc6 hcx
            go_wp2_with fail
            refine HBK.out.mono ?_
            intro e w4 hp
            obtain ⟨rfl, G', hS'⟩ := HS3.out.put hp
            have HS' := Lib.hid hS'; clear hp hS' hc2' hc6' hcx'
            go_wp2_with fail
            go_roundw
            case rel => exact ⟨i + 1, c, a + 1, G', by omega, by go_num, HS'.out, by omega, by have := HA.out; omega⟩
            case measure => simp [intOf]; omega
        · obtain rfl : i = N := by omega
          have t : ¬ (i : Int) < (i : Int) := by omega
          have hca : c + a = i := by omega
          have HS := Lib.hid hS; clear hS hcm ham HGS hc
          have hfn := func_nil
          go_wp2_with fail
          refine (each_any _ 0 wr).mono ?_
          rintro e w3 ⟨rfl, hw3⟩
          have hS3 : GS w A i cap (w.heap.size + 2) w1.heap.size G (seg z a c) M w3 := by
            rw [← hw3]; exact HS.out.turn (((But.refl _ _).alloc _).alloc _) (HS.out.rg.but (((But.refl Nob _).alloc _).alloc _) fun _ _ x => x)
          have hb0 : Blk w3 wr.heap.size 23 #[ptr (some (w.heap.size + 2))] := by rw [← hw3]; exact (Blk.new _ _ _).alloc _
          have hb1 : Blk w3 (wr.heap.size + 1) 3 #[.int .i64 0] := by
            rw [← hw3]; have := Blk.new (wr.alloc (.cells #[.pointer (some ⟨w.heap.size + 2, 0, none⟩)] 23)) 3 #[.int .i64 0]
            rwa [World.size_alloc] at this
          have hz3 : w3.heap.size = wr.heap.size + 2 := by rw [← hw3]; simp
          have hb6 : w1.heap.size < wr.heap.size := HS.out.s6.lt
          have hown : Hid (∀ k, Own2 (w.heap.size + 2) G k → k < wr.heap.size ∧ w.heap.size + 2 ≤ k) := fun k hk => ⟨by
            rcases hk with rfl | hk
            · exact HS.out.rg.lt
            · cases hk; exact HS.out.rg.ltG, (HS.out.sep k hk).1⟩
          have hws : w.heap.size + 2 ≤ w1.heap.size := HS.out.hc6
          have hc2 := hS3.cells.1
          have hc6 := hS3.cells.2
          have HS3 := Lib.hid hS3; have HB0 := Lib.hid hb0; have HB1 := Lib.hid hb1
          clear hS3 hb0 hb1 hw3 HS
          go_upto_region 17 with fail
          go_cut [12] from 64 to 68 (fun t wx => t = .pointer (some ⟨wr.heap.size + 2, 0, none⟩) ∧ Blk wx (wr.heap.size + 2) 3 #[.int .i64 a] ∧ But Nob w3 wx)
          case first =>
            have hcl : w3.cell? ⟨w.heap.size + 2, 2, none⟩ = some (.int .i64 c) := by have := HS3.out.rg.head.1; rwa [seg_length] at this
            have hq2 : IntKind.i64.wrap (a : Int) = (a : Int) := IntWalk.i64_in _ (by omega)
            have hq3 : (i : Int) - (c : Int) = (a : Int) := by omega
            have hbl : w.heap.size + 2 < w3.heap.size := HS3.out.rg.lt
            have n1 := World.new_ne w3 _ hc2
            have n2 := World.new_ne w3 _ hc6
            have n3 := World.new_ne w3 _ hcl
            go_region_held3 (fun W => W.cell? ⟨w.heap.size, 0, none⟩ = some (.slice A i cap) ∧ W.cell? ⟨w1.heap.size, 0, none⟩ = some (.pointer (some ⟨w.heap.size + 2, 0, none⟩)) ∧ W.cell? ⟨w.heap.size + 2, 2, none⟩ = some (.int .i64 c)) (go_keep)
              (first | (go_at_call 26; refine (len_any _ c _ (by first | exact hcl | exact (World.cell?_alloc_lt w3 _ _ hbl).trans hcl)).mono ?_; rintro e wq ⟨rfl, rfl⟩))
            all_goals
              go_wp2_with fail
              go_meet
              refine ⟨rfl, ?_, ((But.refl _ _).alloc _).drew⟩
              have hn := Blk.new w3 3 #[.int .i64 (a : Int)]
              rw [hz3] at hn
              first | exact hn | (rw [hq2]; exact hn)
          case rest =>
            obtain ⟨rfl, hbk, hGk⟩ := hcut
            rename World => w4
            have hS4 : GS w A i cap (w.heap.size + 2) w1.heap.size G (seg z a c) M w4 := HS3.out.turn hGk.nob (HS3.out.rg.but hGk fun _ _ x => x)
            have hb0 := HB0.out.but hGk id
            have hb1 := HB1.out.but hGk id
            have hz4 := hGk.size
            have HS4 := Lib.hid hS4; have HBK := Lib.hid hbk
            clear hS4 hc2 hc6 HB0 HB1 HS3 hGk hbk
            go_wp2_with fail
            refine (wpIn_wide (n := 3)).1 ?_
            have hgs0 : GS w A i cap (w.heap.size + 2) w1.heap.size G (seg z a (a + c - a)) M w4 := by rw [Nat.add_sub_cancel_left]; exact HS4.out
            have hx1 : ∀ k, (Own2 (w.heap.size + 2) G k ∨ k = wr.heap.size + 2) → k < w4.heap.size := by
              intro k hk
              rcases hk with hk | rfl
              · have := hown.out k hk; omega
              · exact HBK.out.lt
            have hx2 : ¬ (Own2 (w.heap.size + 2) G (wr.heap.size + 1) ∨ wr.heap.size + 1 = wr.heap.size + 2) := by
              rintro (hk | hk)
              · have := hown.out _ hk; omega
              · omega
            have hst := each_stops (3 - 1) (by omega) (fun k => Own2 (w.heap.size + 2) G k ∨ k = wr.heap.size + 2) (some (w.heap.size + 2)) G (seg z a c) M 0 wr.heap.size (wr.heap.size + 1) w4 hx1 hb0 hb1 hx2 HS4.out.rg (by rw [seg_length]; omega)
            refine wpIn_rangeFunc_ownG rfl (by omega) (gf := 60) rfl trivial (enters_of Try.func60 (by kernel_rfl) rfl) hst (fun h k => ButC.trans h k) (fun W l o o' _ hl ho _ => butC_b W l o o' hl ho) (Below.refl _ _) (fun _ => rfl)
              (GoesI w A i cap w1.heap.size G z a c M (wr.heap.size + 2)) (fun _ pre _ => AlikeX (seg z a c) 0 pre) (goesI_own w A i cap w1.heap.size G z a c M (wr.heap.size + 2) w4.heap.size (by omega)) (fun _ _ _ _ _ h _ _ => h)
              ⟨a, rfl, hgs0, HBK.out⟩ ?a1 ?assign ?body ?done ?stop
            case assign =>
              intro l x W K hK
              simp only [enc2]
              gi_wp2
              exact hK
            case body =>
              rintro l x0 x W ⟨q, hq, hS, hk⟩ hlen'
              obtain ⟨x1, x2⟩ := x
              rw [seg_tl, seg_length] at hlen'
              have hqi : q < i := by omega
              obtain ⟨bb, off, e', hbb, hcx⟩ := (hS.ints HI.out) q hqi
              have hexp : (tl (seg z a c) 0)[x0.length]?.getD 0 = z q := by rw [seg_tl, seg_get z a c _ hlen', hq, Nat.add_comm]
              have hS0 := hS
              rw [show seg z q (a + c - q) = z q :: seg z (q + 1) (a + c - (q + 1)) by rw [← seg_cons, show a + c - (q + 1) + 1 = a + c - q by omega]] at hS0
              have hF := first_ok _ G (z q) _ M W hS0.rg
              have HF := Lib.hid hF; have HS := Lib.hid hS0; have HK := Lib.hid hk; have HE := Lib.hid hexp; have HQ := Lib.hid hq
              have hc6 := hS.cells.2
              clear hS hS0 hF hk hexp hq hst hb0 hb1 HS4 HBK hgs0 hx1 hx2 hlen'
              gi_wp2_with fail
              refine ⟨trivial, ?_⟩
              refine (CallsIn.inRound l (callsIn_wide.2 HF.out)).mono ?_
              rintro e W2 ⟨rfl, hr2, hg2⟩
              have hS2 := HS.out.turn hg2 hr2
              have hk2 := HK.out.but hg2 (fun x => by have := hown.out _ x; omega)
              have hc2' := hS2.cells.1
              have ck := hk2.cell 0
              have fk := hk2.free 0
              have c1 := hS2.s1.cell 0
              have f1 := hS2.s1.free 0
              obtain ⟨bb', off', e2, hbb', hcx'⟩ := (hS2.ints HI.out) q hqi
              subst e'
              cases e2
              simp only [List.getElem?_toArray, List.getElem?_cons_zero] at ck c1
              have t1 : decide (i ≤ q) = false := by simp; omega
              have t2 : ¬ i ≤ q := by omega
              have k0 : (0 : Int) ≤ (q : Int) := by omega
              have k1 : (q : Int) < (i : Int) := by omega
              have hw : IntKind.i64.wrap ((q : Int) + 1) = (q : Int) + 1 := IntWalk.i64_in _ (by omega)
              have HS2 := Lib.hid hS2; have HK2 := Lib.hid hk2; have HG2 := Lib.hid hg2
              clear hS2 hk2 hg2 hr2 hc6 hcx HS HK HF
              by_cases e3 : x2 = z q
              · have t3 : (x2 != z q) = false := by simpa using e3
                clear e3
                gi_wp2
                have hnk : ¬ Own2 (w.heap.size + 2) G (wr.heap.size + 2) := fun x => by have := hown.out _ x; omega
                have hKF : KeepsFrom w4.heap.size W W2 := HG2.out.from fun k hk => by have := hown.out k hk; omega
                refine ⟨hKF.trans ((KeepsOthers.setCell _ _ _).from _), But.cells ((HG2.out.mono fun k _ hk => .inl hk).set ⟨wr.heap.size + 2, 0, none⟩ _ (.inl (.inr rfl))), q + 1, by rw [List.length_append, HQ.out]; rfl, ?_, ?_⟩
                · exact HS2.out.far ⟨wr.heap.size + 2, 0, none⟩ _ (by show _ ≤ wr.heap.size + 2; omega) (by show wr.heap.size + 2 ≠ _; omega) hnk
                · rw [show ((q + 1 : Nat) : Int) = (q : Int) + 1 by omega]; exact HK2.out.set_ 0 _
              · have t3 : (x2 != z q) = true := by simpa using e3
                have HN := Lib.hid e3; clear e3
                gi_wp2
                have hKF : KeepsFrom w4.heap.size W W2 := HG2.out.from fun k hk => by have := hown.out k hk; omega
                refine ⟨hKF.trans ((KeepsOthers.setCell _ _ _).from _), x0, _, rfl, fun hh => HN.out ?_⟩
                rw [HE.out] at hh; exact congrArg Prod.snd hh
            case done =>
              rintro D ys W hD rfl ⟨q, hq, hS, hk⟩ hK
              rw [itm_length, seg_tl, seg_length] at hq
              have hqi : q = i := by omega
              rw [show a + c - q = 0 by omega] at hS
              have hlen : Calls Try.prog 26 #[.pointer (some ⟨w.heap.size + 2, 0, none⟩)] W fun e w' => e = .returned (.int .i64 0) ∧ W = w' := len_any (w.heap.size + 2) 0 W hS.rg.head.1
              have c0 := hS.cells.1
              have c6 := hS.cells.2
              have ck := hk.cell 0
              have c1 := hS.s1.cell 0
              have f1 := hS.s1.free 0
              simp only [List.getElem?_toArray, List.getElem?_cons_zero] at c1 ck
              rw [hqi] at ck
              have HD : Hid (w4.heap.size ≤ D) := hD
              have HK := Lib.hid hK; have HS := Lib.hid hS; have HLEN := Lib.hid hlen
              clear hK hS hlen hq hqi hD hk hst hb0 hb1 HS4 HBK hgs0 hx1 hx2
              have tq : ((i : Int) == (i : Int)) = true := by simp
              go_wp2_with (first
                | (go_at_call 26; (with_reducible refine HLEN.out.mono ?_); rintro e wq ⟨rfl, rfl⟩)
                | (go_at_call 20; (with_reducible refine (lives5_any _).mono ?_); rintro e w9 ⟨rfl, h9⟩
                   have b1 := HS.out.s1.below h9 HS.out.s1.lt
                   have c1 := b1.cell 0; have f1 := b1.free 0
                   simp only [List.getElem?_toArray, List.getElem?_cons_zero] at c1
                   have H9 := Lib.hid h9; have B1 := Lib.hid b1; clear h9 b1))
              have hDl := (Array.getElem?_eq_some_iff.1 HK.out).1
              have hK9 : w9.heap[D]? = some (.deferred (some [])) := (H9.out.block D hDl).trans HK.out
              refine ⟨by simp, .inl ⟨_, _, rfl, run_takeDeferred (b := D) (ds := []) ((KeepsOthers.setCell _ _ _).same D _ hK9 rfl), ?_⟩⟩
              have hb1 : Blk ((w9.setCell ⟨w.heap.size + 1, 0, none⟩ (.bool true)).putObj D (.deferred none)) (w.heap.size + 1) 4 #[.bool true] :=
                (World.putObj_heap_other (by have := HD.out; omega)).trans (B1.out.set_ 0 _)
              have hc1 := hb1.cell 0
              simp only [List.getElem?_toArray, List.getElem?_cons_zero] at hc1
              refine ⟨.bool true, ?_, rfl, ?_⟩
              · simp [results, Try.f5, go_sem, hc1]
              · have hG9 : But Nob w w9 := HS.out.old.trans (But.of_below H9.out)
                exact ((hG9.set ⟨w.heap.size + 1, 0, none⟩ _ (.inr (Nat.le_succ _))).grown (grownBy_putObj' _ D (.deferred none)) (fun r e => by cases e; exact .inr (by have := HD.out; omega))).below (Nat.le_refl _) fun _ _ x => x.elim
            case stop =>
              rintro D c pre W _ ⟨k, hk, rfl⟩ ⟨pre0, x, e, hx⟩ _
              exact (hx (itm_last e)).elim
end Go.Proofs.Ytfkdcnhhdmfaiaa
