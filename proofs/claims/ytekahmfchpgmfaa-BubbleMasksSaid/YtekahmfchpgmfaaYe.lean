/- The document's Turn (layer 13): its copy, what it refuses, Seal, Place: printed by gen_ye10.py. -/
import Derived.Test.YtekahmfchpgmfaaYd
import Derived.Test.YtekahmfchpgmfaaYb
namespace Go.Proofs.Ytekahmfchpgmfaa
open Go.RowKit
set_option maxRecDepth 100000

theorem wpList_append_row {P : Program} (w : World) {ops : Array Oper} {rest : List Oper} {o : Oper} {a : Act} {Q : Exit → Act → World → Prop} (hgd : o.guard = none) (s x : Operand) (t : TypeId)
    (ho : o.op = .call { callee := .builtin .append, args := #[s, x], argTypes := #[t, t] })
    (base b2 : Nat) (e : TypeId) (i : TypeInfo) (z : Value) (size bytes : Nat) (ht : P.underlying t = some (.slice e)) (hi : P.info? e = some i) (hz : i.zero = some z)
    (hsize : i.size = size) (hby : i.bytes = bytes) (hzs : z.cells.size = size) (hsz : 0 < size)
    (v : Value) (n : Nat) (xs : List Value) (hs : a.eval s = v) (hown : w.ownsRow base e size v n xs)
    (u : Value) (m : Nat) (ys : List Value) (hx : a.eval x = u) (hu : w.ownsRow b2 e size u m ys) (h1 : ∀ x ∈ ys, x.oneCell' = true)
    (h63 : n + m ≤ maxLen) (hbytes : (n + m) * bytes ≤ 140737488355328) (hbase : base ≤ w.heap.size)
    (h : ∀ v' w', w'.ownsRow base e size v' (n + m) (xs ++ ys) → w.grownBy w' v.ownBlock → wpList P ops Q rest (a.put o.dst v') w') : wpList P ops Q (o :: rest) a w :=
  wpList_plain hgd fun _ hK => wp_append_row w s x t ho base b2 e i z size bytes ht hi hz hsize hby hzs hsz v n xs hs hown u m ys hx hu h1 h63 hbytes hbase fun v' w' h2 h3 _ => hK _ _ (h v' w' h2 h3)
/-- The copy, and what is told: apart from one another, all behind w0. -/
structure OutS (w0 : World) (n : Nat) (T : List Bub) (g cap : Nat) (u : Value) (L : List Int) (w : World) : Prop where
  row : w.ownsRow w0.heap.size 30 19 (.slice (some ⟨g, 0, none⟩) n cap) n (bubC T)
  len : T.length = n
  tl : MineN w0.heap.size u L w
  old : Below w0.heap.size w0 w
  sep : u.ownBlock ≠ some g
  lo : w0.heap.size ≤ g
section
variable {w0 : World} {n : Nat} {T : List Bub} {g cap : Nat} {u : Value} {L : List Int} {w w' : World}
theorem OutS.turn (h : OutS w0 n T g cap u L w) {i : Nat} {x y : Bub} (hx : T[i]? = some x) (j : Nat) (v : Value) (hj : j < 19) (hy : (bubL x).set j v = bubL y) : OutS w0 n (T.set i y) g cap u L (w.setCell ⟨g, i * 19 + j, none⟩ v) := by
  have hr := h.row
  rw [← h.len] at hr
  have h1 := row_turn hr hx j v hj hy
  rw [List.length_set, h.len] at h1
  refine ⟨h1, by rw [List.length_set]; exact h.len, ?_, h.old.setCell h.lo _, h.sep, h.lo⟩
  exact row_but h.tl ((But.refl (fun k => k = g) w).set ⟨g, i * 19 + j, none⟩ v (.inl rfl)) fun g' hg' e => h.sep (by rw [hg', e])
theorem OutS.below (h : OutS w0 n T g cap u L w) (hb : Below w.heap.size w w') : OutS w0 n T g cap u L w' :=
  ⟨row_but h.row (But.of_below (X := Nob) hb) fun _ _ q => q, h.len, row_but h.tl (But.of_below (X := Nob) hb) fun _ _ q => q, h.old.trans (hb.mono h.old.size), h.sep, h.lo⟩
theorem OutS.free (h : OutS w0 n T g cap u L w) (j : Nat) : w.frozen? ⟨g, j, none⟩ = false := h.row.frozenAt _
theorem OutS.has (h : OutS w0 n T g cap u L w) {i : Nat} {x : Bub} (hx : T[i]? = some x) (j : Nat) {v : Value} (hj : (bubL x)[j]? = some v) : w.cell? ⟨g, i * 19 + j, none⟩ = some v := by
  have hr := h.row
  rw [← h.len] at hr
  obtain ⟨g', cap', e, hh, -⟩ := row_at hr hx
  cases e
  exact hh j _ hj
end
section
variable {d : Value} {bs : List Bub} {w w' : World}
def turnE (bs : List Bub) (k : Nat) (b : Int) : Int := if k = 2 then sealE bs b else if k = 3 then placeE bs b else if k = 4 then burstE bs b else regenE bs b
def turnT (bs : List Bub) (k : Nat) (b home : Int) : List Bub := if k = 2 then sealT bs b else if k = 3 then placeT bs b home else if k = 4 then burstT bs b else regenT bs b home
def turnL (bs : List Bub) (k : Nat) (b : Int) : List Int := if turnE bs k b = 0 then (if k = 4 then burstL bs b else if k = 5 then regenL bs b else [b]) else []
abbrev RTurnP (d : Value) (bs : List Bub) (k : Nat) (b home : Int) (w : World) : Ending → World → Prop := fun e w' => ∃ d' u, e = .returned (.tuple #[d', u, .int .i64 (turnE bs k b)]) ∧ DocL d' (turnT bs k b home) w' ∧ MineN w.heap.size u (turnL bs k b) w' ∧ Below w.heap.size w w' ∧ (d' = d ∨ ∀ g, d'.ownBlock = some g → w.heap.size ≤ g)
theorem RTurnP.no {k : Nat} {b home a : Int} (hF : DocL d bs w) (hb : Below w.heap.size w w') (he : turnE bs k b = a) (hT : turnT bs k b home = bs) (hn : a ≠ 0) {e : Ending} (hr : e = .returned (.tuple #[d, .slice none 0 0, .int .i64 a])) : RTurnP d bs k b home w e w' :=
  ⟨d, .slice none 0 0, by rw [he]; exact hr, by rw [hT]; exact hF.below hb, by unfold turnL; rw [he, if_neg hn]; exact mineN_nil _ _, hb, .inl rfl⟩
theorem RTurnP.yes {k n : Nat} {b home : Int} {T : List Bub} {g cap : Nat} {u : Value} {L : List Int} (hI : InvB T) (h : OutS w n T g cap u L w') (he : turnE bs k b = 0) (hT : turnT bs k b home = T) (hL : turnL bs k b = L) {e : Ending} (hr : e = .returned (.tuple #[.slice (some ⟨g, 0, none⟩) n cap, u, .int .i64 0])) : RTurnP d bs k b home w e w' := by
  refine ⟨_, u, by rw [he]; exact hr, ?_, by rw [hL]; exact h.tl, h.old, .inr fun g' hg' => ?_⟩
  · rw [hT]
    refine ⟨?_, hI⟩
    have hr := h.row
    rw [h.len]
    exact ⟨hr.1, hr.2.imp id fun ⟨g, cap, cur, a, _, r⟩ => ⟨g, cap, cur, a, Nat.zero_le _, r⟩⟩
  · simp [Value.ownBlock] at hg'; have := h.lo; omega
set_option maxHeartbeats 4000000 in
theorem rturn_none (k : Nat) (b home : Int) (h : DocL d bs w) (hi : inB bs b = false) (he : turnE bs k b = 3) (hT : turnT bs k b home = bs) :
    Calls Try.prog 50 #[d, .int .i64 (k : Nat), .int .i64 b, .int .i64 home] w (RTurnP d bs k b home w) := by
  have HH := Lib.hid (ris_any b h)
  rw [hi] at HH
  have HF := Lib.hid h; have HE := Lib.hid he; have HT := Lib.hid hT
  clear h hi he hT
  go_enter Try.func50, Try.ntmps50
  go_wp2_with (go_at_call 71; (with_reducible refine HH.out.mono ?_); rintro e wq ⟨rfl, rfl⟩)
  refine bodyPost_ret (v := .tuple #[d, .slice none 0 0, .int .i64 3]) (by simp [results, Try.results50]) rfl ?_
  exact RTurnP.no HF.out (Below.refl _ _) HE.out HT.out (by decide) rfl
set_option maxHeartbeats 8000000 in
theorem rseal_no {i : Nat} {x : Bub} (home : Int) (h : DocL d bs w) (hx : bs[i]? = some x) (hs1 : x.state ≠ 1) :
    Calls Try.prog 50 #[d, .int .i64 2, .int .i64 i, .int .i64 home] w (RTurnP d bs 2 (i : Int) home w) := by
  have hck : checkE bs (i : Int) [1] = 5 := by unfold checkE; rw [inB_of hx, atB_of hx]; simp [hs1]
  have he : sealE bs (i : Int) = 5 := hck
  have hT : sealT bs (i : Int) = bs := by unfold sealT; rw [he]; simp
  have HE : Hid (turnE bs 2 (i : Int) = 5) := he
  have HT : Hid (turnT bs 2 (i : Int) home = bs) := hT
  have hin := inB_of hx
  have HH := Lib.hid (ris_any (i : Int) h)
  rw [hin] at HH
  obtain ⟨g0, cp0, hv, hr, -⟩ := row_at h.row hx
  obtain ⟨n, hn⟩ : ∃ n, bs.length = n := ⟨_, rfl⟩
  have HLN := Lib.hid hn
  have hl32 : n ≤ 32 := by have := h.inv.len; omega
  have HONE := Lib.hid (bubC_ones bs)
  have HZ19 : Hid ((Value.agg (bubL zB).toArray).cells.size = 19) := by show _ = _; rfl
  have y17 := hr 17 _ (bubL_17 x)
  have i0 : (0 : Int) ≤ (i : Int) := by omega
  have i2 : i < n := by have := (List.getElem?_eq_some_iff.1 hx).1; omega
  have i1 : (i : Int) < (n : Int) := by omega
  have t1 : (x.state == 1) = false := by simpa using hs1
  have hrow0 := h.row
  rw [hn] at hv hrow0
  subst hv
  have HROW0 := Lib.hid hrow0
  have HF := Lib.hid h; have HX := Lib.hid hx
  clear hr hrow0 h hx hin hn he hT hck hs1
  go_enter Try.func50, Try.ntmps50
  go_upto_region 3 with (go_at_call 71; (with_reducible refine HH.out.mono ?_); rintro e wq ⟨rfl, rfl⟩)
  go_cut [11] (fun v wx => ∃ g cap, v = .slice (some ⟨g, 0, none⟩) n cap ∧ wx.ownsRow w.heap.size 30 19 (.slice (some ⟨g, 0, none⟩) n cap) n (bubC bs) ∧ Below w.heap.size w wx)
  case first =>
    have hrow1 : (w.alloc (.cells #[] 30)).ownsRow 0 30 19 (.slice (some ⟨g0, 0, none⟩) n cp0) n (bubC bs) := HROW0.out.alloc _
    have HROW1 := Lib.hid hrow1
    have HLIT : Hid ((w.alloc (.cells #[] 30)).ownsRow w.heap.size 30 19 (.slice (some ⟨w.heap.size, 0, none⟩) 0 0) 0 []) := Lib.hid (World.ownsRow_lit w #[] 0 (Nat.le_refl _) (Nat.zero_le _) rfl)
    have HAL : Hid (Below w.heap.size w (w.alloc (.cells #[] 30))) := Lib.hid ((Below.refl _ _).alloc (Nat.le_refl _) _)
    obtain ⟨q0, hi0, hz0, hz1, hz2⟩ := info_parts infoBub
    clear hrow1 y17
    go_wp2_with (at_builtin; refine haltM ?_)
    refine Lib.hid ?_
    refine wpList_append_row _ rfl (.tmp 22) (.tmp 23) 66 rfl w.heap.size 0 30 q0 _ 19 152 Try.underlying66 hi0 hz0 hz1 hz2 HZ19.out (by decide) (.slice (some ⟨w.heap.size, 0, none⟩) 0 0) 0 [] rfl HLIT.out (.slice (some ⟨g0, 0, none⟩) n cp0) n (bubC bs) rfl HROW1.out HONE.out (by unfold maxLen; omega) (by omega) HAL.out.size ?_
    intro v5 w5 own5 gr5
    rw [Nat.zero_add, List.nil_append] at own5
    have hv6 : ∃ g cap, v5 = .slice (some ⟨g, 0, none⟩) n cap := by
      rcases rowForm own5 with ⟨_, e⟩ | e
      · omega
      · exact e
    obtain ⟨g, cap, rfl⟩ := hv6
    have HO5 := Lib.hid own5
    have HB5 : Hid (Below w.heap.size w w5) := Lib.hid (HAL.out.grown gr5 HAL.out.size (fun k hk => by simp [Value.ownBlock] at hk; omega))
    clear own5 gr5 HROW1 HLIT hi0 hz0 hz1 hz2
    go_wp2_with fail
    go_meet
    exact ⟨g, cap, rfl, HO5.out, HB5.out⟩
  case rest =>
    obtain ⟨g, cap, rfl, ho1, hb1⟩ := hcut
    rename World => w1
    have HO1 := Lib.hid ho1; have HB1 := Lib.hid hb1
    have HD1 := Lib.hid (HF.out.below hb1)
    have hg0 : g0 < w.heap.size := (HROW0.out.lt g0 rfl).2
    have c17 : w1.cell? ⟨g0, i * 19 + 17, none⟩ = some (.int .i64 x.state) := (hb1.cell (p := ⟨g0, _, none⟩) hg0).trans y17
    have hgl : w.heap.size ≤ g := (ho1.lt g rfl).1
    clear ho1 hb1 y17 HROW0 HH HONE HZ19
    generalize x.state = s at *
    go_wp2_with fail
    refine bodyPost_ret (v := .tuple #[.slice (some ⟨g0, 0, none⟩) n cp0, .slice none 0 0, .int .i64 5]) (by simp [results, Try.results50]) rfl ?_
    exact RTurnP.no HF.out HB1.out HE.out HT.out (by decide) rfl
set_option maxHeartbeats 8000000 in
theorem rburst_no {i : Nat} {x : Bub} (home : Int) (h : DocL d bs w) (hx : bs[i]? = some x) (hs3 : x.state ≠ 3) :
    Calls Try.prog 50 #[d, .int .i64 4, .int .i64 i, .int .i64 home] w (RTurnP d bs 4 (i : Int) home w) := by
  have hck : checkE bs (i : Int) [3] = 5 := by unfold checkE; rw [inB_of hx, atB_of hx]; simp [hs3]
  have he : burstE bs (i : Int) = 5 := hck
  have hT : burstT bs (i : Int) = bs := by unfold burstT; rw [he]; simp
  have HE : Hid (turnE bs 4 (i : Int) = 5) := he
  have HT : Hid (turnT bs 4 (i : Int) home = bs) := hT
  have hin := inB_of hx
  have HH := Lib.hid (ris_any (i : Int) h)
  rw [hin] at HH
  obtain ⟨g0, cp0, hv, hr, -⟩ := row_at h.row hx
  obtain ⟨n, hn⟩ : ∃ n, bs.length = n := ⟨_, rfl⟩
  have HLN := Lib.hid hn
  have hl32 : n ≤ 32 := by have := h.inv.len; omega
  have HONE := Lib.hid (bubC_ones bs)
  have HZ19 : Hid ((Value.agg (bubL zB).toArray).cells.size = 19) := by show _ = _; rfl
  have y17 := hr 17 _ (bubL_17 x)
  have i0 : (0 : Int) ≤ (i : Int) := by omega
  have i2 : i < n := by have := (List.getElem?_eq_some_iff.1 hx).1; omega
  have i1 : (i : Int) < (n : Int) := by omega
  have t3 : (x.state == 3) = false := by simpa using hs3
  have hrow0 := h.row
  rw [hn] at hv hrow0
  subst hv
  have HROW0 := Lib.hid hrow0
  have HF := Lib.hid h; have HX := Lib.hid hx
  clear hr hrow0 h hx hin hn he hT hck hs3
  go_enter Try.func50, Try.ntmps50
  go_upto_region 3 with (go_at_call 71; (with_reducible refine HH.out.mono ?_); rintro e wq ⟨rfl, rfl⟩)
  go_cut [11] (fun v wx => ∃ g cap, v = .slice (some ⟨g, 0, none⟩) n cap ∧ wx.ownsRow w.heap.size 30 19 (.slice (some ⟨g, 0, none⟩) n cap) n (bubC bs) ∧ Below w.heap.size w wx)
  case first =>
    have hrow1 : (w.alloc (.cells #[] 30)).ownsRow 0 30 19 (.slice (some ⟨g0, 0, none⟩) n cp0) n (bubC bs) := HROW0.out.alloc _
    have HROW1 := Lib.hid hrow1
    have HLIT : Hid ((w.alloc (.cells #[] 30)).ownsRow w.heap.size 30 19 (.slice (some ⟨w.heap.size, 0, none⟩) 0 0) 0 []) := Lib.hid (World.ownsRow_lit w #[] 0 (Nat.le_refl _) (Nat.zero_le _) rfl)
    have HAL : Hid (Below w.heap.size w (w.alloc (.cells #[] 30))) := Lib.hid ((Below.refl _ _).alloc (Nat.le_refl _) _)
    obtain ⟨q0, hi0, hz0, hz1, hz2⟩ := info_parts infoBub
    clear hrow1 y17
    go_wp2_with (at_builtin; refine haltM ?_)
    refine Lib.hid ?_
    refine wpList_append_row _ rfl (.tmp 22) (.tmp 23) 66 rfl w.heap.size 0 30 q0 _ 19 152 Try.underlying66 hi0 hz0 hz1 hz2 HZ19.out (by decide) (.slice (some ⟨w.heap.size, 0, none⟩) 0 0) 0 [] rfl HLIT.out (.slice (some ⟨g0, 0, none⟩) n cp0) n (bubC bs) rfl HROW1.out HONE.out (by unfold maxLen; omega) (by omega) HAL.out.size ?_
    intro v5 w5 own5 gr5
    rw [Nat.zero_add, List.nil_append] at own5
    have hv6 : ∃ g cap, v5 = .slice (some ⟨g, 0, none⟩) n cap := by
      rcases rowForm own5 with ⟨_, e⟩ | e
      · omega
      · exact e
    obtain ⟨g, cap, rfl⟩ := hv6
    have HO5 := Lib.hid own5
    have HB5 : Hid (Below w.heap.size w w5) := Lib.hid (HAL.out.grown gr5 HAL.out.size (fun k hk => by simp [Value.ownBlock] at hk; omega))
    clear own5 gr5 HROW1 HLIT hi0 hz0 hz1 hz2
    go_wp2_with fail
    go_meet
    exact ⟨g, cap, rfl, HO5.out, HB5.out⟩
  case rest =>
    obtain ⟨g, cap, rfl, ho1, hb1⟩ := hcut
    rename World => w1
    have HO1 := Lib.hid ho1; have HB1 := Lib.hid hb1
    have HD1 := Lib.hid (HF.out.below hb1)
    have hg0 : g0 < w.heap.size := (HROW0.out.lt g0 rfl).2
    have c17 : w1.cell? ⟨g0, i * 19 + 17, none⟩ = some (.int .i64 x.state) := (hb1.cell (p := ⟨g0, _, none⟩) hg0).trans y17
    have hgl : w.heap.size ≤ g := (ho1.lt g rfl).1
    clear ho1 hb1 y17 HROW0 HH HONE HZ19
    generalize x.state = s at *
    go_wp2_with fail
    refine bodyPost_ret (v := .tuple #[.slice (some ⟨g0, 0, none⟩) n cp0, .slice none 0 0, .int .i64 5]) (by simp [results, Try.results50]) rfl ?_
    exact RTurnP.no HF.out HB1.out HE.out HT.out (by decide) rfl
set_option maxHeartbeats 8000000 in
theorem rregen_no {i : Nat} {x : Bub} (home : Int) (h : DocL d bs w) (hx : bs[i]? = some x) (hs4 : x.state ≠ 4) :
    Calls Try.prog 50 #[d, .int .i64 5, .int .i64 i, .int .i64 home] w (RTurnP d bs 5 (i : Int) home w) := by
  have hck : checkE bs (i : Int) [4] = 5 := by unfold checkE; rw [inB_of hx, atB_of hx]; simp [hs4]
  have he : regenE bs (i : Int) = 5 := hck
  have hT : regenT bs (i : Int) home = bs := by unfold regenT; rw [he]; simp
  have HE : Hid (turnE bs 5 (i : Int) = 5) := he
  have HT : Hid (turnT bs 5 (i : Int) home = bs) := hT
  have hin := inB_of hx
  have HH := Lib.hid (ris_any (i : Int) h)
  rw [hin] at HH
  obtain ⟨g0, cp0, hv, hr, -⟩ := row_at h.row hx
  obtain ⟨n, hn⟩ : ∃ n, bs.length = n := ⟨_, rfl⟩
  have HLN := Lib.hid hn
  have hl32 : n ≤ 32 := by have := h.inv.len; omega
  have HONE := Lib.hid (bubC_ones bs)
  have HZ19 : Hid ((Value.agg (bubL zB).toArray).cells.size = 19) := by show _ = _; rfl
  have y17 := hr 17 _ (bubL_17 x)
  have i0 : (0 : Int) ≤ (i : Int) := by omega
  have i2 : i < n := by have := (List.getElem?_eq_some_iff.1 hx).1; omega
  have i1 : (i : Int) < (n : Int) := by omega
  have t4 : (x.state == 4) = false := by simpa using hs4
  have hrow0 := h.row
  rw [hn] at hv hrow0
  subst hv
  have HROW0 := Lib.hid hrow0
  have HF := Lib.hid h; have HX := Lib.hid hx
  clear hr hrow0 h hx hin hn he hT hck hs4
  go_enter Try.func50, Try.ntmps50
  go_upto_region 3 with (go_at_call 71; (with_reducible refine HH.out.mono ?_); rintro e wq ⟨rfl, rfl⟩)
  go_cut [11] (fun v wx => ∃ g cap, v = .slice (some ⟨g, 0, none⟩) n cap ∧ wx.ownsRow w.heap.size 30 19 (.slice (some ⟨g, 0, none⟩) n cap) n (bubC bs) ∧ Below w.heap.size w wx)
  case first =>
    have hrow1 : (w.alloc (.cells #[] 30)).ownsRow 0 30 19 (.slice (some ⟨g0, 0, none⟩) n cp0) n (bubC bs) := HROW0.out.alloc _
    have HROW1 := Lib.hid hrow1
    have HLIT : Hid ((w.alloc (.cells #[] 30)).ownsRow w.heap.size 30 19 (.slice (some ⟨w.heap.size, 0, none⟩) 0 0) 0 []) := Lib.hid (World.ownsRow_lit w #[] 0 (Nat.le_refl _) (Nat.zero_le _) rfl)
    have HAL : Hid (Below w.heap.size w (w.alloc (.cells #[] 30))) := Lib.hid ((Below.refl _ _).alloc (Nat.le_refl _) _)
    obtain ⟨q0, hi0, hz0, hz1, hz2⟩ := info_parts infoBub
    clear hrow1 y17
    go_wp2_with (at_builtin; refine haltM ?_)
    refine Lib.hid ?_
    refine wpList_append_row _ rfl (.tmp 22) (.tmp 23) 66 rfl w.heap.size 0 30 q0 _ 19 152 Try.underlying66 hi0 hz0 hz1 hz2 HZ19.out (by decide) (.slice (some ⟨w.heap.size, 0, none⟩) 0 0) 0 [] rfl HLIT.out (.slice (some ⟨g0, 0, none⟩) n cp0) n (bubC bs) rfl HROW1.out HONE.out (by unfold maxLen; omega) (by omega) HAL.out.size ?_
    intro v5 w5 own5 gr5
    rw [Nat.zero_add, List.nil_append] at own5
    have hv6 : ∃ g cap, v5 = .slice (some ⟨g, 0, none⟩) n cap := by
      rcases rowForm own5 with ⟨_, e⟩ | e
      · omega
      · exact e
    obtain ⟨g, cap, rfl⟩ := hv6
    have HO5 := Lib.hid own5
    have HB5 : Hid (Below w.heap.size w w5) := Lib.hid (HAL.out.grown gr5 HAL.out.size (fun k hk => by simp [Value.ownBlock] at hk; omega))
    clear own5 gr5 HROW1 HLIT hi0 hz0 hz1 hz2
    go_wp2_with fail
    go_meet
    exact ⟨g, cap, rfl, HO5.out, HB5.out⟩
  case rest =>
    obtain ⟨g, cap, rfl, ho1, hb1⟩ := hcut
    rename World => w1
    have HO1 := Lib.hid ho1; have HB1 := Lib.hid hb1
    have HD1 := Lib.hid (HF.out.below hb1)
    have hg0 : g0 < w.heap.size := (HROW0.out.lt g0 rfl).2
    have c17 : w1.cell? ⟨g0, i * 19 + 17, none⟩ = some (.int .i64 x.state) := (hb1.cell (p := ⟨g0, _, none⟩) hg0).trans y17
    have hgl : w.heap.size ≤ g := (ho1.lt g rfl).1
    clear ho1 hb1 y17 HROW0 HH HONE HZ19
    generalize x.state = s at *
    go_wp2_with fail
    refine bodyPost_ret (v := .tuple #[.slice (some ⟨g0, 0, none⟩) n cp0, .slice none 0 0, .int .i64 5]) (by simp [results, Try.results50]) rfl ?_
    exact RTurnP.no HF.out HB1.out HE.out HT.out (by decide) rfl
set_option maxHeartbeats 8000000 in
theorem rplace_no {i : Nat} {x : Bub} (home : Int) (h : DocL d bs w) (hx : bs[i]? = some x) (hs2 : x.state ≠ 2) (hs3 : x.state ≠ 3) :
    Calls Try.prog 50 #[d, .int .i64 3, .int .i64 i, .int .i64 home] w (RTurnP d bs 3 (i : Int) home w) := by
  have hck : checkE bs (i : Int) [2, 3] = 5 := by unfold checkE; rw [inB_of hx, atB_of hx]; simp [hs2, hs3]
  have he : placeE bs (i : Int) = 5 := by unfold placeE; rw [hck]; simp
  have hT : placeT bs (i : Int) home = bs := by unfold placeT; rw [he]; simp
  have HE : Hid (turnE bs 3 (i : Int) = 5) := he
  have HT : Hid (turnT bs 3 (i : Int) home = bs) := hT
  have hin := inB_of hx
  have HH := Lib.hid (ris_any (i : Int) h)
  rw [hin] at HH
  obtain ⟨g0, cp0, hv, hr, -⟩ := row_at h.row hx
  obtain ⟨n, hn⟩ : ∃ n, bs.length = n := ⟨_, rfl⟩
  have HLN := Lib.hid hn
  have hl32 : n ≤ 32 := by have := h.inv.len; omega
  have HONE := Lib.hid (bubC_ones bs)
  have HZ19 : Hid ((Value.agg (bubL zB).toArray).cells.size = 19) := by show _ = _; rfl
  have y17 := hr 17 _ (bubL_17 x)
  have i0 : (0 : Int) ≤ (i : Int) := by omega
  have i2 : i < n := by have := (List.getElem?_eq_some_iff.1 hx).1; omega
  have i1 : (i : Int) < (n : Int) := by omega
  have t2 : (x.state == 2) = false := by simpa using hs2
  have t3 : (x.state == 3) = false := by simpa using hs3
  have hrow0 := h.row
  rw [hn] at hv hrow0
  subst hv
  have HROW0 := Lib.hid hrow0
  have HF := Lib.hid h; have HX := Lib.hid hx
  clear hr hrow0 h hx hin hn he hT hck hs2 hs3
  go_enter Try.func50, Try.ntmps50
  go_upto_region 3 with (go_at_call 71; (with_reducible refine HH.out.mono ?_); rintro e wq ⟨rfl, rfl⟩)
  go_cut [11] (fun v wx => ∃ g cap, v = .slice (some ⟨g, 0, none⟩) n cap ∧ wx.ownsRow w.heap.size 30 19 (.slice (some ⟨g, 0, none⟩) n cap) n (bubC bs) ∧ Below w.heap.size w wx)
  case first =>
    have hrow1 : (w.alloc (.cells #[] 30)).ownsRow 0 30 19 (.slice (some ⟨g0, 0, none⟩) n cp0) n (bubC bs) := HROW0.out.alloc _
    have HROW1 := Lib.hid hrow1
    have HLIT : Hid ((w.alloc (.cells #[] 30)).ownsRow w.heap.size 30 19 (.slice (some ⟨w.heap.size, 0, none⟩) 0 0) 0 []) := Lib.hid (World.ownsRow_lit w #[] 0 (Nat.le_refl _) (Nat.zero_le _) rfl)
    have HAL : Hid (Below w.heap.size w (w.alloc (.cells #[] 30))) := Lib.hid ((Below.refl _ _).alloc (Nat.le_refl _) _)
    obtain ⟨q0, hi0, hz0, hz1, hz2⟩ := info_parts infoBub
    clear hrow1 y17
    go_wp2_with (at_builtin; refine haltM ?_)
    refine Lib.hid ?_
    refine wpList_append_row _ rfl (.tmp 22) (.tmp 23) 66 rfl w.heap.size 0 30 q0 _ 19 152 Try.underlying66 hi0 hz0 hz1 hz2 HZ19.out (by decide) (.slice (some ⟨w.heap.size, 0, none⟩) 0 0) 0 [] rfl HLIT.out (.slice (some ⟨g0, 0, none⟩) n cp0) n (bubC bs) rfl HROW1.out HONE.out (by unfold maxLen; omega) (by omega) HAL.out.size ?_
    intro v5 w5 own5 gr5
    rw [Nat.zero_add, List.nil_append] at own5
    have hv6 : ∃ g cap, v5 = .slice (some ⟨g, 0, none⟩) n cap := by
      rcases rowForm own5 with ⟨_, e⟩ | e
      · omega
      · exact e
    obtain ⟨g, cap, rfl⟩ := hv6
    have HO5 := Lib.hid own5
    have HB5 : Hid (Below w.heap.size w w5) := Lib.hid (HAL.out.grown gr5 HAL.out.size (fun k hk => by simp [Value.ownBlock] at hk; omega))
    clear own5 gr5 HROW1 HLIT hi0 hz0 hz1 hz2
    go_wp2_with fail
    go_meet
    exact ⟨g, cap, rfl, HO5.out, HB5.out⟩
  case rest =>
    obtain ⟨g, cap, rfl, ho1, hb1⟩ := hcut
    rename World => w1
    have HO1 := Lib.hid ho1; have HB1 := Lib.hid hb1
    have HD1 := Lib.hid (HF.out.below hb1)
    have hg0 : g0 < w.heap.size := (HROW0.out.lt g0 rfl).2
    have c17 : w1.cell? ⟨g0, i * 19 + 17, none⟩ = some (.int .i64 x.state) := (hb1.cell (p := ⟨g0, _, none⟩) hg0).trans y17
    have hgl : w.heap.size ≤ g := (ho1.lt g rfl).1
    clear ho1 hb1 y17 HROW0 HH HONE HZ19
    generalize x.state = s at *
    go_wp2_with fail
    refine bodyPost_ret (v := .tuple #[.slice (some ⟨g0, 0, none⟩) n cp0, .slice none 0 0, .int .i64 5]) (by simp [results, Try.results50]) rfl ?_
    exact RTurnP.no HF.out HB1.out HE.out HT.out (by decide) rfl
set_option maxHeartbeats 8000000 in
theorem rseal_ok {i : Nat} {x : Bub} (home : Int) (h : DocL d bs w) (hx : bs[i]? = some x) (hs : x.state = 1) :
    Calls Try.prog 50 #[d, .int .i64 2, .int .i64 i, .int .i64 home] w (RTurnP d bs 2 (i : Int) home w) := by
  have hck : checkE bs (i : Int) [1] = 0 := by unfold checkE; rw [inB_of hx, atB_of hx]; simp [hs]
  have he : sealE bs (i : Int) = 0 := hck
  have HE : Hid (turnE bs 2 (i : Int) = 0) := he
  have HT : Hid (turnT bs 2 (i : Int) home = bs.set i { x with state := 2 }) := by show sealT bs (i : Int) = _; unfold sealT; rw [he, atB_of hx]; simp
  have HLL : Hid (turnL bs 2 (i : Int) = [(i : Int)]) := by show _ = _; unfold turnL; rw [HE.out]; simp
  have HI2 := Lib.hid (inv_set h.inv hx (y := { x with state := 2 }) rfl (by simp) (by simp))
  have HS1 := Lib.hid hs
  have hin := inB_of hx
  have HH := Lib.hid (ris_any (i : Int) h)
  rw [hin] at HH
  obtain ⟨g0, cp0, hv, hr, -⟩ := row_at h.row hx
  obtain ⟨n, hn⟩ : ∃ n, bs.length = n := ⟨_, rfl⟩
  have HLN := Lib.hid hn
  have hl32 : n ≤ 32 := by have := h.inv.len; omega
  have HONE := Lib.hid (bubC_ones bs)
  have HZ19 : Hid ((Value.agg (bubL zB).toArray).cells.size = 19) := by show _ = _; rfl
  have y17 := hr 17 _ (bubL_17 x)
  have i0 : (0 : Int) ≤ (i : Int) := by omega
  have i2 : i < n := by have := (List.getElem?_eq_some_iff.1 hx).1; omega
  have i1 : (i : Int) < (n : Int) := by omega
  have hrow0 := h.row
  rw [hn] at hv hrow0
  subst hv
  have HROW0 := Lib.hid hrow0
  have HF := Lib.hid h; have HX := Lib.hid hx
  clear hr hrow0 h hx hin hn he hck hs
  go_enter Try.func50, Try.ntmps50
  go_upto_region 3 with (go_at_call 71; (with_reducible refine HH.out.mono ?_); rintro e wq ⟨rfl, rfl⟩)
  go_cut [11] (fun v wx => ∃ g cap, v = .slice (some ⟨g, 0, none⟩) n cap ∧ wx.ownsRow w.heap.size 30 19 (.slice (some ⟨g, 0, none⟩) n cap) n (bubC bs) ∧ Below w.heap.size w wx)
  case first =>
    have hrow1 : (w.alloc (.cells #[] 30)).ownsRow 0 30 19 (.slice (some ⟨g0, 0, none⟩) n cp0) n (bubC bs) := HROW0.out.alloc _
    have HROW1 := Lib.hid hrow1
    have HLIT : Hid ((w.alloc (.cells #[] 30)).ownsRow w.heap.size 30 19 (.slice (some ⟨w.heap.size, 0, none⟩) 0 0) 0 []) := Lib.hid (World.ownsRow_lit w #[] 0 (Nat.le_refl _) (Nat.zero_le _) rfl)
    have HAL : Hid (Below w.heap.size w (w.alloc (.cells #[] 30))) := Lib.hid ((Below.refl _ _).alloc (Nat.le_refl _) _)
    obtain ⟨q0, hi0, hz0, hz1, hz2⟩ := info_parts infoBub
    clear hrow1 y17
    go_wp2_with (at_builtin; refine haltM ?_)
    refine Lib.hid ?_
    refine wpList_append_row _ rfl (.tmp 22) (.tmp 23) 66 rfl w.heap.size 0 30 q0 _ 19 152 Try.underlying66 hi0 hz0 hz1 hz2 HZ19.out (by decide) (.slice (some ⟨w.heap.size, 0, none⟩) 0 0) 0 [] rfl HLIT.out (.slice (some ⟨g0, 0, none⟩) n cp0) n (bubC bs) rfl HROW1.out HONE.out (by unfold maxLen; omega) (by omega) HAL.out.size ?_
    intro v5 w5 own5 gr5
    rw [Nat.zero_add, List.nil_append] at own5
    have hv6 : ∃ g cap, v5 = .slice (some ⟨g, 0, none⟩) n cap := by
      rcases rowForm own5 with ⟨_, e⟩ | e
      · omega
      · exact e
    obtain ⟨g, cap, rfl⟩ := hv6
    have HO5 := Lib.hid own5
    have HB5 : Hid (Below w.heap.size w w5) := Lib.hid (HAL.out.grown gr5 HAL.out.size (fun k hk => by simp [Value.ownBlock] at hk; omega))
    clear own5 gr5 HROW1 HLIT hi0 hz0 hz1 hz2
    go_wp2_with fail
    go_meet
    exact ⟨g, cap, rfl, HO5.out, HB5.out⟩
  case rest =>
    obtain ⟨g, cap, rfl, ho1, hb1⟩ := hcut
    rename World => w1
    have HO1 := Lib.hid ho1; have HB1 := Lib.hid hb1
    have HD1 := Lib.hid (HF.out.below hb1)
    have hg0 : g0 < w.heap.size := (HROW0.out.lt g0 rfl).2
    have c17 : w1.cell? ⟨g0, i * 19 + 17, none⟩ = some (.int .i64 x.state) := (hb1.cell (p := ⟨g0, _, none⟩) hg0).trans y17
    have hgl : w.heap.size ≤ g := (ho1.lt g rfl).1
    clear ho1 hb1 y17 HROW0 HH HONE HZ19
    have HST : Hid (OutS w n bs g cap (.slice (some ⟨w1.heap.size, 0, none⟩) 1 1) [(i : Int)] (w1.alloc (.cells #[.int .i64 i] 3))) := by
      have hgs : g < w1.heap.size := (HO1.out.lt g rfl).2
      refine ⟨HO1.out.alloc _, HLN.out, ?_, HB1.out.alloc HB1.out.size _, by simp [Value.ownBlock]; omega, hgl⟩
      have := World.ownsRow_lit (base := w.heap.size) (e := 3) (size := 1) w1 #[.int .i64 i] 1 HB1.out.size (by unfold maxLen; omega) rfl
      exact this
    have f17 := HST.out.free (i * 19 + 17)
    have o17 := HST.out.has HX.out 17 (bubL_17 x)
    have f18 := HST.out.free (i * 19 + 18)
    have o18 := HST.out.has HX.out 18 (bubL_18 x)
    have HR := Lib.hid (HST.out.turn HX.out 17 (.int .i64 2) (by omega) (bubL_state x 2))
    rw [HS1.out] at c17
    go_wp2_with fail
    refine bodyPost_ret (v := .tuple #[.slice (some ⟨g, 0, none⟩) n cap, .slice (some ⟨w1.heap.size, 0, none⟩) 1 1, .int .i64 0]) (by simp [results, Try.results50]) rfl ?_
    exact RTurnP.yes HI2.out HR.out HE.out HT.out HLL.out rfl
set_option maxHeartbeats 8000000 in
theorem rplace_top {i : Nat} {x : Bub} (home : Int) (h : DocL d bs w) (hx : bs[i]? = some x) (hs : x.state = 2 ∨ x.state = 3) (hu : x.up = -1) :
    Calls Try.prog 50 #[d, .int .i64 3, .int .i64 i, .int .i64 home] w (RTurnP d bs 3 (i : Int) home w) := by
  have hck : checkE bs (i : Int) [2, 3] = 0 := by unfold checkE; rw [inB_of hx, atB_of hx]; rcases hs with hs | hs <;> simp [hs]
  have hpl : placeOk bs (i : Int) = true := by unfold placeOk; rw [atB_of hx, hu]; simp
  have he : placeE bs (i : Int) = 0 := by unfold placeE; rw [hck, hpl]; simp
  have HE : Hid (turnE bs 3 (i : Int) = 0) := he
  have HT : Hid (turnT bs 3 (i : Int) home = bs.set i { x with state := 3, home := home }) := by show placeT bs (i : Int) home = _; unfold placeT; rw [he, atB_of hx]; simp
  have HLL : Hid (turnL bs 3 (i : Int) = [(i : Int)]) := by show _ = _; unfold turnL; rw [HE.out]; simp
  have HI2 := Lib.hid (inv_set h.inv hx (y := { x with state := 3, home := home }) rfl (by simp) (by simp))
  have hin := inB_of hx
  have HH := Lib.hid (ris_any (i : Int) h)
  rw [hin] at HH
  obtain ⟨g0, cp0, hv, hr, -⟩ := row_at h.row hx
  obtain ⟨n, hn⟩ : ∃ n, bs.length = n := ⟨_, rfl⟩
  have HLN := Lib.hid hn
  have hl32 : n ≤ 32 := by have := h.inv.len; omega
  have HONE := Lib.hid (bubC_ones bs)
  have HZ19 : Hid ((Value.agg (bubL zB).toArray).cells.size = 19) := by show _ = _; rfl
  have y17 := hr 17 _ (bubL_17 x)
  have i0 : (0 : Int) ≤ (i : Int) := by omega
  have i2 : i < n := by have := (List.getElem?_eq_some_iff.1 hx).1; omega
  have i1 : (i : Int) < (n : Int) := by omega
  have y0 := hr 0 _ (bubL_0 x)
  rw [hu] at y0
  have hrow0 := h.row
  rw [hn] at hv hrow0
  subst hv
  have HROW0 := Lib.hid hrow0
  have HF := Lib.hid h; have HX := Lib.hid hx
  clear hr hrow0 h hx hin hn he hck hpl
  go_enter Try.func50, Try.ntmps50
  go_upto_region 3 with (go_at_call 71; (with_reducible refine HH.out.mono ?_); rintro e wq ⟨rfl, rfl⟩)
  go_cut [11] (fun v wx => ∃ g cap, v = .slice (some ⟨g, 0, none⟩) n cap ∧ wx.ownsRow w.heap.size 30 19 (.slice (some ⟨g, 0, none⟩) n cap) n (bubC bs) ∧ Below w.heap.size w wx)
  case first =>
    have hrow1 : (w.alloc (.cells #[] 30)).ownsRow 0 30 19 (.slice (some ⟨g0, 0, none⟩) n cp0) n (bubC bs) := HROW0.out.alloc _
    have HROW1 := Lib.hid hrow1
    have HLIT : Hid ((w.alloc (.cells #[] 30)).ownsRow w.heap.size 30 19 (.slice (some ⟨w.heap.size, 0, none⟩) 0 0) 0 []) := Lib.hid (World.ownsRow_lit w #[] 0 (Nat.le_refl _) (Nat.zero_le _) rfl)
    have HAL : Hid (Below w.heap.size w (w.alloc (.cells #[] 30))) := Lib.hid ((Below.refl _ _).alloc (Nat.le_refl _) _)
    obtain ⟨q0, hi0, hz0, hz1, hz2⟩ := info_parts infoBub
    clear hrow1 y17
    go_wp2_with (at_builtin; refine haltM ?_)
    refine Lib.hid ?_
    refine wpList_append_row _ rfl (.tmp 22) (.tmp 23) 66 rfl w.heap.size 0 30 q0 _ 19 152 Try.underlying66 hi0 hz0 hz1 hz2 HZ19.out (by decide) (.slice (some ⟨w.heap.size, 0, none⟩) 0 0) 0 [] rfl HLIT.out (.slice (some ⟨g0, 0, none⟩) n cp0) n (bubC bs) rfl HROW1.out HONE.out (by unfold maxLen; omega) (by omega) HAL.out.size ?_
    intro v5 w5 own5 gr5
    rw [Nat.zero_add, List.nil_append] at own5
    have hv6 : ∃ g cap, v5 = .slice (some ⟨g, 0, none⟩) n cap := by
      rcases rowForm own5 with ⟨_, e⟩ | e
      · omega
      · exact e
    obtain ⟨g, cap, rfl⟩ := hv6
    have HO5 := Lib.hid own5
    have HB5 : Hid (Below w.heap.size w w5) := Lib.hid (HAL.out.grown gr5 HAL.out.size (fun k hk => by simp [Value.ownBlock] at hk; omega))
    clear own5 gr5 HROW1 HLIT hi0 hz0 hz1 hz2
    go_wp2_with fail
    go_meet
    exact ⟨g, cap, rfl, HO5.out, HB5.out⟩
  case rest =>
    obtain ⟨g, cap, rfl, ho1, hb1⟩ := hcut
    rename World => w1
    have HO1 := Lib.hid ho1; have HB1 := Lib.hid hb1
    have HD1 := Lib.hid (HF.out.below hb1)
    have hg0 : g0 < w.heap.size := (HROW0.out.lt g0 rfl).2
    have c17 : w1.cell? ⟨g0, i * 19 + 17, none⟩ = some (.int .i64 x.state) := (hb1.cell (p := ⟨g0, _, none⟩) hg0).trans y17
    have hgl : w.heap.size ≤ g := (ho1.lt g rfl).1
    clear ho1 hb1 y17 HROW0 HH HONE HZ19
    have HST : Hid (OutS w n bs g cap (.slice (some ⟨w1.heap.size, 0, none⟩) 1 1) [(i : Int)] (w1.alloc (.cells #[.int .i64 i] 3))) := by
      have hgs : g < w1.heap.size := (HO1.out.lt g rfl).2
      refine ⟨HO1.out.alloc _, HLN.out, ?_, HB1.out.alloc HB1.out.size _, by simp [Value.ownBlock]; omega, hgl⟩
      have := World.ownsRow_lit (base := w.heap.size) (e := 3) (size := 1) w1 #[.int .i64 i] 1 HB1.out.size (by unfold maxLen; omega) rfl
      exact this
    have f17 := HST.out.free (i * 19 + 17)
    have o17 := HST.out.has HX.out 17 (bubL_17 x)
    have f18 := HST.out.free (i * 19 + 18)
    have o18 := HST.out.has HX.out 18 (bubL_18 x)
    have c0 : w1.cell? ⟨g0, i * 19, none⟩ = some (.int .i64 (-1)) := (HB1.out.cell (p := ⟨g0, _, none⟩) hg0).trans (by rw [Nat.add_zero] at y0; exact y0)
    clear y0 hu
    have R1 := HST.out.turn HX.out 17 (.int .i64 3) (by omega) (bubL_state x 3)
    have hx2 : (bs.set i { x with state := 3 })[i]? = some { x with state := 3 } := by
      rw [List.getElem?_set_self (List.getElem?_eq_some_iff.1 HX.out).1]
    have R2 := R1.turn hx2 18 (.int .i64 home) (by omega) (bubL_home _ home)
    rw [List.set_set] at R2
    have HR := Lib.hid R2
    clear R1 R2 hx2
    generalize x.state = s at *
    rcases hs with rfl | rfl
    all_goals
      go_wp2_with fail
      refine bodyPost_ret (v := .tuple #[.slice (some ⟨g, 0, none⟩) n cap, .slice (some ⟨w1.heap.size, 0, none⟩) 1 1, .int .i64 0]) (by simp [results, Try.results50]) rfl ?_
      exact RTurnP.yes HI2.out HR.out HE.out HT.out HLL.out rfl
set_option maxHeartbeats 8000000 in
theorem rplace_in {i : Nat} {x : Bub} (home : Int) (h : DocL d bs w) (hx : bs[i]? = some x) (hs : x.state = 2 ∨ x.state = 3) {p : Nat} {z : Bub} (hu : x.up = (p : Int)) (hz : bs[p]? = some z) (h4 : z.state = 4) :
    Calls Try.prog 50 #[d, .int .i64 3, .int .i64 i, .int .i64 home] w (RTurnP d bs 3 (i : Int) home w) := by
  have hck : checkE bs (i : Int) [2, 3] = 0 := by unfold checkE; rw [inB_of hx, atB_of hx]; rcases hs with hs | hs <;> simp [hs]
  have hpl : placeOk bs (i : Int) = true := by unfold placeOk; rw [atB_of hx, hu, atB_of hz, h4]; simp
  have he : placeE bs (i : Int) = 0 := by unfold placeE; rw [hck, hpl]; simp
  have HE : Hid (turnE bs 3 (i : Int) = 0) := he
  have HT : Hid (turnT bs 3 (i : Int) home = bs.set i { x with state := 3, home := home }) := by show placeT bs (i : Int) home = _; unfold placeT; rw [he, atB_of hx]; simp
  have HLL : Hid (turnL bs 3 (i : Int) = [(i : Int)]) := by show _ = _; unfold turnL; rw [HE.out]; simp
  have HI2 := Lib.hid (inv_set h.inv hx (y := { x with state := 3, home := home }) rfl (by simp) (by simp))
  have hin := inB_of hx
  have HH := Lib.hid (ris_any (i : Int) h)
  rw [hin] at HH
  obtain ⟨g0, cp0, hv, hr, -⟩ := row_at h.row hx
  obtain ⟨n, hn⟩ : ∃ n, bs.length = n := ⟨_, rfl⟩
  have HLN := Lib.hid hn
  have hl32 : n ≤ 32 := by have := h.inv.len; omega
  have HONE := Lib.hid (bubC_ones bs)
  have HZ19 : Hid ((Value.agg (bubL zB).toArray).cells.size = 19) := by show _ = _; rfl
  have y17 := hr 17 _ (bubL_17 x)
  have i0 : (0 : Int) ≤ (i : Int) := by omega
  have i2 : i < n := by have := (List.getElem?_eq_some_iff.1 hx).1; omega
  have i1 : (i : Int) < (n : Int) := by omega
  obtain ⟨g9, cp9, hv9, hr9, -⟩ := row_at h.row hz
  have hg9 : g9 = g0 := by have := hv.symm.trans hv9; simp at this; exact this.1.symm
  have z17 := hr9 17 _ (bubL_17 z)
  rw [hg9] at z17
  have y0 := hr 0 _ (bubL_0 x)
  rw [hu] at y0
  have p0 : (0 : Int) ≤ (p : Int) := by omega
  have p2 : p < n := by have := (List.getElem?_eq_some_iff.1 hz).1; omega
  have p1 : (p : Int) < (n : Int) := by omega
  have p3 : ((p : Int) == -1) = false := by simp
  clear hr9 hv9 hg9
  have hrow0 := h.row
  rw [hn] at hv hrow0
  subst hv
  have HROW0 := Lib.hid hrow0
  have HF := Lib.hid h; have HX := Lib.hid hx
  clear hr hrow0 h hx hin hn he hck hpl hz
  go_enter Try.func50, Try.ntmps50
  go_upto_region 3 with (go_at_call 71; (with_reducible refine HH.out.mono ?_); rintro e wq ⟨rfl, rfl⟩)
  go_cut [11] (fun v wx => ∃ g cap, v = .slice (some ⟨g, 0, none⟩) n cap ∧ wx.ownsRow w.heap.size 30 19 (.slice (some ⟨g, 0, none⟩) n cap) n (bubC bs) ∧ Below w.heap.size w wx)
  case first =>
    have hrow1 : (w.alloc (.cells #[] 30)).ownsRow 0 30 19 (.slice (some ⟨g0, 0, none⟩) n cp0) n (bubC bs) := HROW0.out.alloc _
    have HROW1 := Lib.hid hrow1
    have HLIT : Hid ((w.alloc (.cells #[] 30)).ownsRow w.heap.size 30 19 (.slice (some ⟨w.heap.size, 0, none⟩) 0 0) 0 []) := Lib.hid (World.ownsRow_lit w #[] 0 (Nat.le_refl _) (Nat.zero_le _) rfl)
    have HAL : Hid (Below w.heap.size w (w.alloc (.cells #[] 30))) := Lib.hid ((Below.refl _ _).alloc (Nat.le_refl _) _)
    obtain ⟨q0, hi0, hz0, hz1, hz2⟩ := info_parts infoBub
    clear hrow1 y17
    go_wp2_with (at_builtin; refine haltM ?_)
    refine Lib.hid ?_
    refine wpList_append_row _ rfl (.tmp 22) (.tmp 23) 66 rfl w.heap.size 0 30 q0 _ 19 152 Try.underlying66 hi0 hz0 hz1 hz2 HZ19.out (by decide) (.slice (some ⟨w.heap.size, 0, none⟩) 0 0) 0 [] rfl HLIT.out (.slice (some ⟨g0, 0, none⟩) n cp0) n (bubC bs) rfl HROW1.out HONE.out (by unfold maxLen; omega) (by omega) HAL.out.size ?_
    intro v5 w5 own5 gr5
    rw [Nat.zero_add, List.nil_append] at own5
    have hv6 : ∃ g cap, v5 = .slice (some ⟨g, 0, none⟩) n cap := by
      rcases rowForm own5 with ⟨_, e⟩ | e
      · omega
      · exact e
    obtain ⟨g, cap, rfl⟩ := hv6
    have HO5 := Lib.hid own5
    have HB5 : Hid (Below w.heap.size w w5) := Lib.hid (HAL.out.grown gr5 HAL.out.size (fun k hk => by simp [Value.ownBlock] at hk; omega))
    clear own5 gr5 HROW1 HLIT hi0 hz0 hz1 hz2
    go_wp2_with fail
    go_meet
    exact ⟨g, cap, rfl, HO5.out, HB5.out⟩
  case rest =>
    obtain ⟨g, cap, rfl, ho1, hb1⟩ := hcut
    rename World => w1
    have HO1 := Lib.hid ho1; have HB1 := Lib.hid hb1
    have HD1 := Lib.hid (HF.out.below hb1)
    have hg0 : g0 < w.heap.size := (HROW0.out.lt g0 rfl).2
    have c17 : w1.cell? ⟨g0, i * 19 + 17, none⟩ = some (.int .i64 x.state) := (hb1.cell (p := ⟨g0, _, none⟩) hg0).trans y17
    have hgl : w.heap.size ≤ g := (ho1.lt g rfl).1
    clear ho1 hb1 y17 HROW0 HH HONE HZ19
    have HST : Hid (OutS w n bs g cap (.slice (some ⟨w1.heap.size, 0, none⟩) 1 1) [(i : Int)] (w1.alloc (.cells #[.int .i64 i] 3))) := by
      have hgs : g < w1.heap.size := (HO1.out.lt g rfl).2
      refine ⟨HO1.out.alloc _, HLN.out, ?_, HB1.out.alloc HB1.out.size _, by simp [Value.ownBlock]; omega, hgl⟩
      have := World.ownsRow_lit (base := w.heap.size) (e := 3) (size := 1) w1 #[.int .i64 i] 1 HB1.out.size (by unfold maxLen; omega) rfl
      exact this
    have f17 := HST.out.free (i * 19 + 17)
    have o17 := HST.out.has HX.out 17 (bubL_17 x)
    have f18 := HST.out.free (i * 19 + 18)
    have o18 := HST.out.has HX.out 18 (bubL_18 x)
    have c0 : w1.cell? ⟨g0, i * 19, none⟩ = some (.int .i64 (p : Int)) := (HB1.out.cell (p := ⟨g0, _, none⟩) hg0).trans (by rw [Nat.add_zero] at y0; exact y0)
    have cz : w1.cell? ⟨g0, p * 19 + 17, none⟩ = some (.int .i64 z.state) := (HB1.out.cell (p := ⟨g0, _, none⟩) hg0).trans z17
    clear y0 z17 hu
    rw [h4] at cz
    have R1 := HST.out.turn HX.out 17 (.int .i64 3) (by omega) (bubL_state x 3)
    have hx2 : (bs.set i { x with state := 3 })[i]? = some { x with state := 3 } := by
      rw [List.getElem?_set_self (List.getElem?_eq_some_iff.1 HX.out).1]
    have R2 := R1.turn hx2 18 (.int .i64 home) (by omega) (bubL_home _ home)
    rw [List.set_set] at R2
    have HR := Lib.hid R2
    clear R1 R2 hx2
    generalize x.state = s at *
    rcases hs with rfl | rfl
    all_goals
      go_wp2_with fail
      refine bodyPost_ret (v := .tuple #[.slice (some ⟨g, 0, none⟩) n cap, .slice (some ⟨w1.heap.size, 0, none⟩) 1 1, .int .i64 0]) (by simp [results, Try.results50]) rfl ?_
      exact RTurnP.yes HI2.out HR.out HE.out HT.out HLL.out rfl
set_option maxHeartbeats 8000000 in
theorem rplace_in_no {i : Nat} {x : Bub} (home : Int) (h : DocL d bs w) (hx : bs[i]? = some x) (hs : x.state = 2 ∨ x.state = 3) {p : Nat} {z : Bub} (hu : x.up = (p : Int)) (hz : bs[p]? = some z) (h4 : z.state ≠ 4) :
    Calls Try.prog 50 #[d, .int .i64 3, .int .i64 i, .int .i64 home] w (RTurnP d bs 3 (i : Int) home w) := by
  have hck : checkE bs (i : Int) [2, 3] = 0 := by unfold checkE; rw [inB_of hx, atB_of hx]; rcases hs with hs | hs <;> simp [hs]
  have hpl : placeOk bs (i : Int) = false := by unfold placeOk; rw [atB_of hx, hu, atB_of hz]; simp [h4]
  have he : placeE bs (i : Int) = 5 := by unfold placeE; rw [hck, hpl]; simp
  have hT : placeT bs (i : Int) home = bs := by unfold placeT; rw [he]; simp
  have HE : Hid (turnE bs 3 (i : Int) = 5) := he
  have HT : Hid (turnT bs 3 (i : Int) home = bs) := hT
  have t4 : (z.state == 4) = false := by simpa using h4
  have hin := inB_of hx
  have HH := Lib.hid (ris_any (i : Int) h)
  rw [hin] at HH
  obtain ⟨g0, cp0, hv, hr, -⟩ := row_at h.row hx
  obtain ⟨n, hn⟩ : ∃ n, bs.length = n := ⟨_, rfl⟩
  have HLN := Lib.hid hn
  have hl32 : n ≤ 32 := by have := h.inv.len; omega
  have HONE := Lib.hid (bubC_ones bs)
  have HZ19 : Hid ((Value.agg (bubL zB).toArray).cells.size = 19) := by show _ = _; rfl
  have y17 := hr 17 _ (bubL_17 x)
  have i0 : (0 : Int) ≤ (i : Int) := by omega
  have i2 : i < n := by have := (List.getElem?_eq_some_iff.1 hx).1; omega
  have i1 : (i : Int) < (n : Int) := by omega
  obtain ⟨g9, cp9, hv9, hr9, -⟩ := row_at h.row hz
  have hg9 : g9 = g0 := by have := hv.symm.trans hv9; simp at this; exact this.1.symm
  have z17 := hr9 17 _ (bubL_17 z)
  rw [hg9] at z17
  have y0 := hr 0 _ (bubL_0 x)
  rw [hu] at y0
  have p0 : (0 : Int) ≤ (p : Int) := by omega
  have p2 : p < n := by have := (List.getElem?_eq_some_iff.1 hz).1; omega
  have p1 : (p : Int) < (n : Int) := by omega
  have p3 : ((p : Int) == -1) = false := by simp
  clear hr9 hv9 hg9
  have hrow0 := h.row
  rw [hn] at hv hrow0
  subst hv
  have HROW0 := Lib.hid hrow0
  have HF := Lib.hid h; have HX := Lib.hid hx
  clear hr hrow0 h hx hin hn he hT hck hpl hz h4
  go_enter Try.func50, Try.ntmps50
  go_upto_region 3 with (go_at_call 71; (with_reducible refine HH.out.mono ?_); rintro e wq ⟨rfl, rfl⟩)
  go_cut [11] (fun v wx => ∃ g cap, v = .slice (some ⟨g, 0, none⟩) n cap ∧ wx.ownsRow w.heap.size 30 19 (.slice (some ⟨g, 0, none⟩) n cap) n (bubC bs) ∧ Below w.heap.size w wx)
  case first =>
    have hrow1 : (w.alloc (.cells #[] 30)).ownsRow 0 30 19 (.slice (some ⟨g0, 0, none⟩) n cp0) n (bubC bs) := HROW0.out.alloc _
    have HROW1 := Lib.hid hrow1
    have HLIT : Hid ((w.alloc (.cells #[] 30)).ownsRow w.heap.size 30 19 (.slice (some ⟨w.heap.size, 0, none⟩) 0 0) 0 []) := Lib.hid (World.ownsRow_lit w #[] 0 (Nat.le_refl _) (Nat.zero_le _) rfl)
    have HAL : Hid (Below w.heap.size w (w.alloc (.cells #[] 30))) := Lib.hid ((Below.refl _ _).alloc (Nat.le_refl _) _)
    obtain ⟨q0, hi0, hz0, hz1, hz2⟩ := info_parts infoBub
    clear hrow1 y17
    go_wp2_with (at_builtin; refine haltM ?_)
    refine Lib.hid ?_
    refine wpList_append_row _ rfl (.tmp 22) (.tmp 23) 66 rfl w.heap.size 0 30 q0 _ 19 152 Try.underlying66 hi0 hz0 hz1 hz2 HZ19.out (by decide) (.slice (some ⟨w.heap.size, 0, none⟩) 0 0) 0 [] rfl HLIT.out (.slice (some ⟨g0, 0, none⟩) n cp0) n (bubC bs) rfl HROW1.out HONE.out (by unfold maxLen; omega) (by omega) HAL.out.size ?_
    intro v5 w5 own5 gr5
    rw [Nat.zero_add, List.nil_append] at own5
    have hv6 : ∃ g cap, v5 = .slice (some ⟨g, 0, none⟩) n cap := by
      rcases rowForm own5 with ⟨_, e⟩ | e
      · omega
      · exact e
    obtain ⟨g, cap, rfl⟩ := hv6
    have HO5 := Lib.hid own5
    have HB5 : Hid (Below w.heap.size w w5) := Lib.hid (HAL.out.grown gr5 HAL.out.size (fun k hk => by simp [Value.ownBlock] at hk; omega))
    clear own5 gr5 HROW1 HLIT hi0 hz0 hz1 hz2
    go_wp2_with fail
    go_meet
    exact ⟨g, cap, rfl, HO5.out, HB5.out⟩
  case rest =>
    obtain ⟨g, cap, rfl, ho1, hb1⟩ := hcut
    rename World => w1
    have HO1 := Lib.hid ho1; have HB1 := Lib.hid hb1
    have HD1 := Lib.hid (HF.out.below hb1)
    have hg0 : g0 < w.heap.size := (HROW0.out.lt g0 rfl).2
    have c17 : w1.cell? ⟨g0, i * 19 + 17, none⟩ = some (.int .i64 x.state) := (hb1.cell (p := ⟨g0, _, none⟩) hg0).trans y17
    have hgl : w.heap.size ≤ g := (ho1.lt g rfl).1
    clear ho1 hb1 y17 HROW0 HH HONE HZ19
    have c0 : w1.cell? ⟨g0, i * 19, none⟩ = some (.int .i64 (p : Int)) := (HB1.out.cell (p := ⟨g0, _, none⟩) hg0).trans (by rw [Nat.add_zero] at y0; exact y0)
    have cz : w1.cell? ⟨g0, p * 19 + 17, none⟩ = some (.int .i64 z.state) := (HB1.out.cell (p := ⟨g0, _, none⟩) hg0).trans z17
    clear y0 z17 hu
    generalize z.state = zs at *
    generalize x.state = s at *
    rcases hs with rfl | rfl
    all_goals
      go_wp2_with fail
      refine bodyPost_ret (v := .tuple #[.slice (some ⟨g0, 0, none⟩) n cp0, .slice none 0 0, .int .i64 5]) (by simp [results, Try.results50]) rfl ?_
      exact RTurnP.no HF.out HB1.out HE.out HT.out (by decide) rfl
end
end Go.Proofs.Ytekahmfchpgmfaa
