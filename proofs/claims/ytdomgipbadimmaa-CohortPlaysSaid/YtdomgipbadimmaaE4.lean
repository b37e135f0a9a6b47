/- The document's Take (layer 14). -/
import Derived.Test.YtdomgipbadimmaaE3
namespace Go.Proofs.Ytdomgipbadimmaa
open Go.RowKit
set_option maxRecDepth 100000

theorem infoDL : (Try.prog.info? 93).map (·.size) = some 6 := by kernel_rfl
theorem load_lock {w : World} {g : Nat} {cs : Array Value} (hb : Blk w g 93 cs) (hs : cs.size = 6) : (loadVar 93 ⟨g, 0, none⟩).run Try.prog w = .ok (.agg cs) w :=
  run_loadVar_row w g 93 93 cs (0, 0) _ hb Try.underlying93 rfl (by rw [hs]; exact infoDL)
theorem results_lock {fn : Func} {p : Tmp} (h : fn.results = #[.cell p 93]) (tmps : Array Value) (w : World) (g : Nat) (cs : Array Value) (hp : tmps.getD p undef = .pointer (some ⟨g, 0, none⟩)) (hb : Blk w g 93 cs) (hs : cs.size = 6) :
    (results fn tmps).run Try.prog w = .ok (.agg cs) w := by
  have hp' : tmps[p]?.getD undef = .pointer (some ⟨g, 0, none⟩) := by simpa using hp
  simp [results, h, hp', asAddr, load_lock hb hs]
theorem results_lock3 {fn : Func} {p u v : Tmp} (h : fn.results = #[.cell p 93, .tmp u, .tmp v]) (tmps : Array Value) (w : World) (g : Nat) (cs : Array Value) (hp : tmps.getD p undef = .pointer (some ⟨g, 0, none⟩)) (hb : Blk w g 93 cs) (hs : cs.size = 6) :
    (results fn tmps).run Try.prog w = .ok (.tuple #[.agg cs, tmps.getD u undef, tmps.getD v undef]) w := by
  have hp' : tmps[p]?.getD undef = .pointer (some ⟨g, 0, none⟩) := by simpa using hp
  simp [results, h, hp', asAddr, load_lock hb hs, Result.andThen]
theorem results_lock4 {fn : Func} {p u v y : Tmp} (h : fn.results = #[.cell p 93, .tmp u, .tmp v, .tmp y]) (tmps : Array Value) (w : World) (g : Nat) (cs : Array Value) (hp : tmps.getD p undef = .pointer (some ⟨g, 0, none⟩)) (hb : Blk w g 93 cs) (hs : cs.size = 6) :
    (results fn tmps).run Try.prog w = .ok (.tuple #[.agg cs, tmps.getD u undef, tmps.getD v undef, tmps.getD y undef]) w := by
  have hp' : tmps[p]?.getD undef = .pointer (some ⟨g, 0, none⟩) := by simpa using hp
  simp [results, h, hp', asAddr, load_lock hb hs, Result.andThen]
theorem SIn.slice {D : Nat → Prop} {v : Value} {n : Nat} {cs : List Value} {W : World} (h : SIn D v n cs W) : ∃ A n' cap, v = .slice A n' cap := by
  obtain ⟨A, cap, a, _⟩ := h
  exact ⟨A, n, cap, a⟩
theorem blk_new2 (W : World) (o : Obj) (t : TypeId) (cs : Array Value) : Blk ((W.alloc o).alloc (.cells cs t)) (W.heap.size + 1) t cs := heap_alloc2_new W o (.cells cs t)
theorem stored6 {w : World} {g : Nat} {x0 x1 x2 x3 x4 x5 : Value} (h : Blk w g 93 #[x0, x1, x2, x3, x4, x5]) (y0 y1 y2 y3 y4 y5 : Value) :
    Blk ((((((w.setCell ⟨g, 0, none⟩ y0).setCell ⟨g, 1, none⟩ y1).setCell ⟨g, 2, none⟩ y2).setCell ⟨g, 3, none⟩ y3).setCell ⟨g, 4, none⟩ y4).setCell ⟨g, 5, none⟩ y5) g 93 #[y0, y1, y2, y3, y4, y5] :=
  (((((h.set_ 0 y0).set_ 1 y1).set_ 2 y2).set_ 3 y3).set_ 4 y4).set_ 5 y5
theorem but6 {X : Nat → Prop} {g : Nat} {W w : World} (h : But X W w) (hg : X g) (y0 y1 y2 y3 y4 y5 : Value) :
    But X W ((((((w.setCell ⟨g, 0, none⟩ y0).setCell ⟨g, 1, none⟩ y1).setCell ⟨g, 2, none⟩ y2).setCell ⟨g, 3, none⟩ y3).setCell ⟨g, 4, none⟩ y4).setCell ⟨g, 5, none⟩ y5) :=
  (((((h.set ⟨g, 0, none⟩ _ (.inl hg)).set ⟨g, 1, none⟩ _ (.inl hg)).set ⟨g, 2, none⟩ _ (.inl hg)).set ⟨g, 3, none⟩ _ (.inl hg)).set ⟨g, 4, none⟩ _ (.inl hg)).set ⟨g, 5, none⟩ _ (.inl hg)
theorem below6 {B g : Nat} {W w : World} (h : Below B W w) (hg : B ≤ g) (y0 y1 y2 y3 y4 y5 : Value) :
    Below B W ((((((w.setCell ⟨g, 0, none⟩ y0).setCell ⟨g, 1, none⟩ y1).setCell ⟨g, 2, none⟩ y2).setCell ⟨g, 3, none⟩ y3).setCell ⟨g, 4, none⟩ y4).setCell ⟨g, 5, none⟩ y5) :=
  (((((h.setCell hg _).setCell hg _).setCell hg _).setCell hg _).setCell hg _).setCell hg _
theorem app_waits {ops : Array Oper} {rest : List Oper} {o : Oper} {a : Act} {W : World} {Q : Exit → Act → World → Prop} (hgd : o.guard = none) (s x : Operand) (ho : o.op = .call { callee := .builtin .append, args := #[s, x], argTypes := #[60, 60] })
    (D : Nat → Prop) (B : Nat) (v : Value) (L : List Ent) (hs : a.eval s = v) (hown : WaitR B v L W) (v2 : Value) (G : List Ent) (hx : a.eval x = v2) (hin : SIn D v2 G.length (entC G) W) (hl : L.length ≤ 10000) (hm : G.length ≤ 10000) (hB : B ≤ W.heap.size)
    (h : ∀ v' w', WaitR B v' (L ++ G) w' → Below B W w' → wpList Try.prog ops Q rest (a.put o.dst v') w') : wpList Try.prog ops Q (o :: rest) a W := by
  obtain ⟨i0, hi0, hz0, hz1, hz2⟩ := info_parts infoWait
  refine app_sin hgd s x 60 62 ho Try.underlying60 i0 _ 2 16 hi0 hz0 hz1 hz2 rfl (by decide) (by decide) D B v L.length (entC L) hs hown v2 G.length (entC G) hx hin (entC_length G) (entC_one G) (by omega) (by omega) hB ?_
  intro v' w' own hb
  refine h v' w' ?_ hb
  unfold WaitR
  rw [List.length_append, entC_app]; exact own
theorem app_nums {ops : Array Oper} {rest : List Oper} {o : Oper} {a : Act} {W : World} {Q : Exit → Act → World → Prop} (hgd : o.guard = none) (s x : Operand) (ho : o.op = .call { callee := .builtin .append, args := #[s, x], argTypes := #[55, 55] })
    (D : Nat → Prop) (B : Nat) (v : Value) (L : List Int) (hs : a.eval s = v) (hown : MineN B v L W) (v2 : Value) (G : List Int) (hx : a.eval x = v2) (hin : SIn D v2 G.length (numC G) W) (hl : L.length ≤ 10000) (hm : G.length ≤ 10000) (hB : B ≤ W.heap.size)
    (h : ∀ v' w', MineN B v' (L ++ G) w' → Below B W w' → wpList Try.prog ops Q rest (a.put o.dst v') w') : wpList Try.prog ops Q (o :: rest) a W := by
  obtain ⟨i0, hi0, hz0, hz1, hz2⟩ := info_parts infoInt
  refine app_sin hgd s x 55 3 ho Try.underlying55 i0 _ 1 8 hi0 hz0 hz1 hz2 rfl (by decide) (by decide) D B v L.length (numC L) hs hown v2 G.length (numC G) hx hin (by simp [numC]) (by intro u hu; simp only [numC, List.mem_map] at hu; obtain ⟨y, _, rfl⟩ := hu; rfl) (by omega) (by omega) hB ?_
  intro v' w' own hb
  refine h v' w' ?_ hb
  unfold MineN
  rw [List.length_append, show numC (L ++ G) = numC L ++ numC G by simp [numC]]; exact own
theorem app_num {ops : Array Oper} {rest : List Oper} {o : Oper} {a : Act} {W : World} {Q : Exit → Act → World → Prop} (hgd : o.guard = none) (s x : Operand) (ho : o.op = .call { callee := .builtin .append, args := #[s, x], argTypes := #[55, 55] })
    (B : Nat) (v : Value) (L : List Int) (hs : a.eval s = v) (hown : MineN B v L W) (g1 : Nat) (y : Int) (hx : a.eval x = .slice (some ⟨g1, 0, none⟩) 1 1) (hb : W.cell? ⟨g1, 0, none⟩ = some (.int .i64 y)) (hl : L.length ≤ 10000) (hB : B ≤ W.heap.size)
    (h : ∀ v' w', MineN B v' (L ++ [y]) w' → W.grownBy w' v.ownBlock → (v'.ownBlock = v.ownBlock ∨ v'.ownBlock = some W.heap.size) → wpList Try.prog ops Q rest (a.put o.dst v') w') : wpList Try.prog ops Q (o :: rest) a W := by
  obtain ⟨i0, hi0, hz0, hz1, hz2⟩ := info_parts infoInt
  refine wpList_append_own_at W hgd s x 55 ho B 3 i0 _ 1 8 Try.underlying55 hi0 hz0 hz1 hz2 rfl (by decide) v L.length (numC L) hs hown ⟨g1, 0, none⟩ 1 1 (numC [y]) hx (by simp [numC]) ?_ (by intro u hu; simp [numC] at hu; rcases hu with rfl; rfl) (by unfold maxLen; omega) (by omega) hB ?_
  · intro j u hu
    match j, hu with
    | 0, hu =>
      have hadd : (⟨g1, 0, none⟩ : Addr).add 0 = ⟨g1, 0, none⟩ := by unfold Addr.add; split <;> simp_all
      rw [hadd, hb]; simpa [numC] using hu
    | j + 1, hu => simp [numC] at hu
  · intro v' w' own gr _ hbk
    refine h v' w' ?_ gr hbk
    unfold MineN
    rw [List.length_append, show numC (L ++ [y]) = numC L ++ numC [y] by simp [numC]]
    exact own
theorem mine_lit (B : Nat) (W : World) (hB : B ≤ W.heap.size) : MineN B (.slice (some ⟨W.heap.size, 0, none⟩) 0 0) [] (W.alloc (.cells #[] 3)) := by
  have := World.ownsRow_lit (base := B) (e := 3) (size := 1) W #[] 0 hB (by unfold maxLen; omega) rfl
  exact this
theorem MineN.form {B : Nat} {v : Value} {L : List Int} {W : World} (h : MineN B v L W) (hne : 0 < L.length) : ∃ g cap, v = .slice (some ⟨g, 0, none⟩) L.length cap ∧ B ≤ g := by
  have hc := h
  rcases h.2 with ⟨rfl, hn⟩ | ⟨g, cap, cur, rfl, hg, hh, hcap, _⟩
  · omega
  · exact ⟨g, cap, rfl, hg⟩
theorem WaitR.sin {B : Nat} {D : Nat → Prop} {v : Value} {L : List Ent} {W : World} (h : WaitR B v L W) (hD : ∀ g, B ≤ g → D g) : SIn D v L.length (entC L) W := (SIn.of_owns h).mono fun g _ q => hD g q
theorem MineN.sin {B : Nat} {D : Nat → Prop} {v : Value} {L : List Int} {W : World} (h : MineN B v L W) (hD : ∀ g, B ≤ g → D g) : SIn D v L.length (numC L) W := (SIn.of_owns h).mono fun g _ q => hD g q
/-- What is in blocks of D, or made since. -/
def Since (D : Nat → Prop) (W : World) (g : Nat) : Prop := D g ∨ W.heap.size ≤ g
/-- The document's Take: what it tells and leaves. -/
def DTakeP (D : Nat → Prop) (c : Coh) (E : List Ent) (t s : Int) (W : World) (e : Ending) (w' : World) : Prop :=
  ∃ wv rv, e = .returned (.tuple #[.agg (dcells (takeT c t s) wv rv).toArray, .bool (takeE c t s).1, .int .i64 (takeE c t s).2]) ∧ DLk (Since D W) (takeT c t s) (takeW c E t s) wv rv w' ∧ Below W.heap.size W w'
section
variable {D : Nat → Prop} {c : Coh} {E : List Ent} {wv rv : Value} {W w' : World} {t s : Int}
theorem DLk.since (h : DLk D c E wv rv W) (hb : Below W.heap.size W w') : DLk (Since D W) c E wv rv w' := (h.mono fun _ _ q => Or.inl q).below hb
theorem dtake_no (h : DLk D c E wv rv W) {e : Int} (he : takeE c t s = (false, e)) (hn : e ≠ 0) (hb : Below W.heap.size W w') : DTakeP D c E t s W (.returned (.tuple #[.agg (dcells c wv rv).toArray, .bool false, .int .i64 e])) w' := by
  have h1 : takeT c t s = c := by unfold takeT; rw [he, if_neg hn]
  have h2 : takeW c E t s = E := by unfold takeW; rw [he, if_neg (fun q => hn q.1)]
  refine ⟨wv, rv, ?_, ?_, hb⟩
  · rw [h1, he]
  · rw [h1, h2]; exact h.since hb
set_option maxHeartbeats 8000000 in
theorem dtake_free (t s : Int) (ht : ¬ t < 0) (hs : ¬ s < 0) (hr : RelC c E) (hown : c.own = -1) (h : DLk D c E wv rv W) : Calls Try.prog 41 #[.agg (dcells c wv rv).toArray, .int .i64 t, .int .i64 s] W (DTakeP D c E t s W) := by
  have hz := hr.ok.non hown
  subst hz
  obtain rfl := hr.empty rfl
  obtain ⟨A1, c1, rfl, hc1, -, -⟩ := h.ent
  obtain ⟨A2, n2, c2, rfl⟩ := h.rnd.slice
  have HT : takeE zCoh t s = (true, 0) := by
    unfold takeE zCoh waitsC
    rw [if_neg (by omega), if_neg (by simp; omega), if_neg (by simp)]; simp
  have hTT : takeT zCoh t s = ⟨t, s, 0, []⟩ := by unfold takeT takeC; rw [HT]; simp [zCoh]
  have hTW : takeW zCoh [] t s = [] := by unfold takeW; rw [if_neg (by simp [zCoh])]
  have HF : Hid (∀ w', Below W.heap.size W w' → DTakeP D zCoh [] t s W (.returned (.tuple #[.agg #[.bool true, .int .i64 t, .int .i64 s, .int .i64 0, .slice none 0 0, .slice none 0 0], .bool true, .int .i64 0])) w') := fun w' hb => by
    refine ⟨.slice none 0 0, .slice none 0 0, ?_, ?_, hb⟩
    · rw [hTT, HT]
      unfold dcells heldD ownD
      rw [show ((⟨t, s, 0, []⟩ : Coh).own == -1) = false by simp; omega, if_neg (by simp; omega)]
      rfl
    · rw [hTT, hTW]
      exact ⟨sin_nil _ _, sin_nil _ _⟩
  unfold dcells
  rw [show heldD zCoh = false by decide, show ownD zCoh = 0 by decide]
  show Calls _ _ #[.agg #[.bool false, .int .i64 0, .int .i64 0, .int .i64 0, .slice A1 0 c1, .slice A2 n2 c2], _, _] _ _
  clear h hr hown hTT hTW HT
  go_enter Try.func41, Try.ntmps41
  go_wp2_with fail
  generalize hW1 : (W.alloc (.cells #[.bool false, .int .i64 0, .int .i64 0, .int .i64 0, .slice A1 0 c1, .slice A2 n2 c2] 93)).alloc (.cells #[.bool false, .int .i64 0, .int .i64 0, .int .i64 0, .slice none 0 0, .slice none 0 0] 93) = W1
  go_loopw [31] (fun iv wr => iv = .int .i64 0 ∧ wr = W1) (fun _ _ => 0)
  case atStart => exact ⟨rfl, rfl⟩
  case round =>
    obtain ⟨rfl, rfl⟩ := hrel
    subst hW1
    go_wp2_with fail
    refine bodyPost_ret (results_lock3 rfl _ _ (W.heap.size + 1) _ rfl (blk_new2 _ _ _ _) rfl) rfl ?_
    exact HF.out _ (((Below.refl _ _).alloc (Nat.le_refl _) _).alloc (by simp) _)
set_option maxHeartbeats 16000000 in
theorem dtake_wait (t s : Int) (ht : ¬ t < 0) (hs : ¬ s < 0) (hr : RelC c E) (hown : c.own ≠ -1) (hot : c.own ≠ t) (h : DLk D c E wv rv W) (hE : E.length ≤ 900) (hR : (rndL c).length ≤ 900) : Calls Try.prog 41 #[.agg (dcells c wv rv).toArray, .int .i64 t, .int .i64 s] W (DTakeP D c E t s W) := by
  obtain ⟨A1, c1, rfl, hc1, -, hent⟩ := h.ent
  obtain ⟨A2, c2, rfl, hc2, -, -⟩ := h.rnd.num
  have HD := Lib.hid h
  have HW := Lib.hid (hr.waits t)
  have HEN := Lib.hid hent
  have hcl : dcells c (.slice A1 E.length c1) (.slice A2 (rndL c).length c2) = [.bool true, .int .i64 c.own, .int .i64 c.soc, .int .i64 c.pas, .slice A1 E.length c1, .slice A2 (rndL c).length c2] := by
    unfold dcells heldD ownD
    rw [if_neg hown, show (c.own == -1) = false by simpa using hown]; rfl
  have HF9 : Hid (∀ w', waitsC c t = true → Below W.heap.size W w' → DTakeP D c E t s W (.returned (.tuple #[.agg #[.bool true, .int .i64 c.own, .int .i64 c.soc, .int .i64 c.pas, .slice A1 E.length c1, .slice A2 (rndL c).length c2], .bool false, .int .i64 9])) w') := fun w' q hb => by
    have := dtake_no HD.out (show takeE c t s = (false, 9) by unfold takeE; rw [if_neg (by omega), if_neg hot, if_pos q]) (by decide) hb
    rw [hcl] at this; exact this
  have HFW : Hid (∀ v' r' w', waitsC c t = false → SIn (Since D W) v' (E.length + 1) (entC (E ++ [⟨t, s, 0⟩])) w' → (∀ R, R = (if (rndL c).any (fun x => x == s) then rndL c else rndL c ++ [s]) → SIn (Since D W) r' R.length (numC R) w') → Below W.heap.size W w' → DTakeP D c E t s W (.returned (.tuple #[.agg #[.bool true, .int .i64 c.own, .int .i64 c.soc, .int .i64 c.pas, v', r'], .bool false, .int .i64 0])) w') := fun v' r' w' q h1 h2 hb => by
    have he : takeE c t s = (false, 0) := by unfold takeE; rw [if_neg (by omega), if_neg hot, if_neg (by rw [q]; simp), show decide (c.own = -1) = false by simpa using hown]
    have hT : takeT c t s = { c with rnd := addR s t c.rnd } := by unfold takeT takeC; rw [he, if_pos rfl, if_neg hown]
    have hWW : takeW c E t s = E ++ [⟨t, s, 0⟩] := by unfold takeW; rw [he, if_pos ⟨rfl, hown⟩]
    have hRL : rndL (takeT c t s) = if (rndL c).any (fun x => x == s) then rndL c else rndL c ++ [s] := by
      rw [hT]; unfold rndL
      show (addR s t c.rnd).map (·.1) = _
      rw [addR_heads, List.any_map]; rfl
    refine ⟨v', r', ?_, ⟨?_, h2 _ hRL⟩, hb⟩
    · rw [he, hT]
      unfold dcells heldD ownD
      show _ = Ending.returned (.tuple #[.agg #[.bool (!(c.own == -1)), .int .i64 (if c.own = -1 then 0 else c.own), .int .i64 c.soc, .int .i64 c.pas, v', r'], _, _])
      rw [if_neg hown, show (c.own == -1) = false by simpa using hown]; rfl
    · rw [hWW, List.length_append]; exact h1
  obtain ⟨n, hn⟩ : ∃ n, E.length = n := ⟨_, rfl⟩
  obtain ⟨m, hm⟩ : ∃ m, (rndL c).length = m := ⟨_, rfl⟩
  have HN := Lib.hid hn; have HM := Lib.hid hm
  rw [hcl]
  obtain ⟨b2, hb2⟩ : ∃ b, c.soc = b := ⟨_, rfl⟩
  obtain ⟨b3, hb3⟩ : ∃ b, c.pas = b := ⟨_, rfl⟩
  obtain ⟨o, ho⟩ : ∃ b, c.own = b := ⟨_, rfl⟩
  rw [ho, hb2, hb3, hn] at HF9 HFW ⊢
  rw [hm] at HF9 ⊢
  rw [ho] at hot
  rw [hn] at hE hc1; rw [hm] at hR hc2
  have tot : (o == t) = false := by simpa using hot
  clear h hr hown hent hcl hb2 hb3 ho hot hn hm
  show Calls _ _ #[.agg #[.bool true, .int .i64 o, .int .i64 b2, .int .i64 b3, .slice A1 n c1, .slice A2 m c2], _, _] _ _
  go_enter Try.func41, Try.ntmps41
  go_wp2_with fail
  have hB1 : Blk ((W.alloc (.cells #[.bool true, .int .i64 o, .int .i64 b2, .int .i64 b3, .slice A1 n c1, .slice A2 m c2] 93)).alloc (.cells #[.bool false, .int .i64 0, .int .i64 0, .int .i64 0, .slice none 0 0, .slice none 0 0] 93)) W.heap.size 93 #[.bool true, .int .i64 o, .int .i64 b2, .int .i64 b3, .slice A1 n c1, .slice A2 m c2] := (Blk.new W _ _).alloc _
  have hB2 := blk_new2 W (.cells #[.bool true, .int .i64 o, .int .i64 b2, .int .i64 b3, .slice A1 n c1, .slice A2 m c2] 93) 93 #[.bool false, .int .i64 0, .int .i64 0, .int .i64 0, .slice none 0 0, .slice none 0 0]
  have hLOW : Below W.heap.size W ((W.alloc (.cells #[.bool true, .int .i64 o, .int .i64 b2, .int .i64 b3, .slice A1 n c1, .slice A2 m c2] 93)).alloc (.cells #[.bool false, .int .i64 0, .int .i64 0, .int .i64 0, .slice none 0 0, .slice none 0 0] 93)) := ((Below.refl _ _).alloc (Nat.le_refl _) _).alloc (by simp) _
  generalize (W.alloc (.cells #[.bool true, .int .i64 o, .int .i64 b2, .int .i64 b3, .slice A1 n c1, .slice A2 m c2] 93)).alloc (.cells #[.bool false, .int .i64 0, .int .i64 0, .int .i64 0, .slice none 0 0, .slice none 0 0] 93) = W1 at *
  obtain ⟨xb, hxb⟩ : ∃ xb, W.heap.size = xb := ⟨_, rfl⟩
  have HXB := Lib.hid hxb
  have HB1 := Lib.hid hB1; have HB2 := Lib.hid hB2; have HLOW := Lib.hid hLOW
  rw [hxb] at HB1 HB2
  rw [hxb]
  clear hB1 hB2 hLOW hxb
  go_loopw [31] (fun iv wr => ∃ k : Nat, iv = .int .i64 k ∧ k ≤ n ∧ Below W1.heap.size W1 wr ∧ (E.take k).any (fun e => e.tsk == t) = false) (fun iv _ => n - (intOf iv).toNat)
  case atStart => exact ⟨0, rfl, Nat.zero_le _, Below.refl _ _, rfl⟩
  case round =>
    obtain ⟨k, rfl, hk, hb, hno⟩ := hrel
    have HB := Lib.hid hb
    have HX := Lib.hid (HB1.out.but (X := Nob) (But.of_below hb) id)
    have HRR := Lib.hid (HB2.out.but (X := Nob) (But.of_below hb) id)
    have HD1 := Lib.hid ((HD.out.below HLOW.out).below hb)
    have HNO := Lib.hid hno
    clear hb hno
    by_cases hlt : k < n
    · obtain ⟨x, hx⟩ : ∃ x, E[k]? = some x := ⟨_, List.getElem?_eq_getElem (by rw [HN.out]; exact hlt)⟩
      obtain ⟨g, rfl, l0, f0, f1⟩ := HEN.out k x hx
      have g0 := ((HLOW.out.trans (HB.out.mono HLOW.out.size)).cell (p := ⟨g, k * 2, none⟩) l0).trans f0
      have g1 := ((HLOW.out.trans (HB.out.mono HLOW.out.size)).cell (p := ⟨g, k * 2 + 1, none⟩) l0).trans f1
      have HLT := Lib.hid hlt
      have k0 : (0 : Int) ≤ (k : Int) := by omega
      have k1 : (k : Int) < (n : Int) := by omega
      have k2 : (k : Int) < (c1 : Int) := by omega
      have HS : Hid ((E.take (k + 1)).any (fun e => e.tsk == t) = (x.tsk == t)) := by
        show _ = _
        rw [List.take_add_one, hx, List.any_append, HNO.out]; simp
      have HANY : Hid (x.tsk = t → waitsC c t = true) := fun q => by
        rw [HW.out, List.any_eq_true]; exact ⟨x, List.mem_of_getElem? hx, by simpa using q⟩
      have HBX : Hid (∀ o, Below W1.heap.size W1 (wr.alloc o)) := fun o => HB.out.alloc HB.out.size o
      clear l0 f0 f1 hx
      by_cases q : x.tsk = t
      · have tq : (x.tsk == t) = true := by simpa using q
        have HWT := Lib.hid (HANY.out q)
        clear q HS HANY
        have hbx := HB.out.alloc HB.out.size (.cells #[.int .i64 x.tsk, .int .i64 x.soc] 62)
        have hX8 := HX.out.alloc (.cells #[.int .i64 x.tsk, .int .i64 x.soc] 62)
        have hR8 := HRR.out.alloc (.cells #[.int .i64 x.tsk, .int .i64 x.soc] 62)
        go_upto_region 9 with fail
        generalize wr.alloc (.cells #[.int .i64 x.tsk, .int .i64 x.soc] 62) = W8 at *
        generalize wr.heap.size = yb at *
        have q0 := hX8.cell 0; have q1 := hX8.cell 1; have q2 := hX8.cell 2; have q3 := hX8.cell 3; have q4 := hX8.cell 4; have q5 := hX8.cell 5
        simp only [List.getElem?_toArray, List.getElem?_cons_zero, List.getElem?_cons_succ] at q0 q1 q2 q3 q4 q5
        have r0 := hR8.free 0; have r1 := hR8.free 1; have r2 := hR8.free 2; have r3 := hR8.free 3; have r4 := hR8.free 4; have r5 := hR8.free 5
        have z0 := hR8.cell 0; have z1 := hR8.cell 1; have z2 := hR8.cell 2; have z3 := hR8.cell 3; have z4 := hR8.cell 4; have z5 := hR8.cell 5
        simp only [List.getElem?_toArray, List.getElem?_cons_zero, List.getElem?_cons_succ] at z0 z1 z2 z3 z4 z5
        have HR8 := Lib.hid hR8; have HBB := Lib.hid hbx
        clear hX8 hR8 hbx
        go_wp2_with fail
        refine bodyPost_ret (results_lock3 rfl _ _ (xb + 1) _ rfl (stored6 HR8.out _ _ _ _ _ _) rfl) rfl ?_
        exact HF9.out _ HWT.out (below6 (HLOW.out.trans (HBB.out.mono HLOW.out.size)) (by have := HXB.out; omega) _ _ _ _ _ _)
      · have tq : (x.tsk == t) = false := by simpa using q
        have HS2 := Lib.hid (HS.out.trans tq)
        clear q HS HANY
        go_wp2_with fail
        go_roundw
        case rel => exact ⟨k + 1, by go_num, by have := HLT.out; omega, HBX.out _, HS2.out⟩
        case measure => have := HLT.out; simp [intOf]; omega
    · have hkn : k = n := by omega
      have tk : ¬ (k : Int) < (n : Int) := by omega
      have HWF : Hid (waitsC c t = false) := by
        show _ = _
        rw [HW.out]
        have := HNO.out
        rwa [List.take_of_length_le (by rw [HN.out]; omega)] at this
      have hx0 := HX.out
      have q0 := hx0.cell 0; have q1 := hx0.cell 1; have q2 := hx0.cell 2; have q3 := hx0.cell 3; have q4 := hx0.cell 4; have q5 := hx0.cell 5
      simp only [List.getElem?_toArray, List.getElem?_cons_zero, List.getElem?_cons_succ] at q0 q1 q2 q3 q4 q5
      clear hx0 hkn HNO
      go_upto_region 14 with fail
      clear q0 q1 q2 q3 q4 q5
      have hX5 := HX.out.alloc (.cells #[.bool true, .int .i64 o, .int .i64 b2, .int .i64 b3, .slice A1 n c1, .slice A2 m c2] 93)
      have hR5 := HRR.out.alloc (.cells #[.bool true, .int .i64 o, .int .i64 b2, .int .i64 b3, .slice A1 n c1, .slice A2 m c2] 93)
      have hY5 := Blk.new wr 93 #[.bool true, .int .i64 o, .int .i64 b2, .int .i64 b3, .slice A1 n c1, .slice A2 m c2]
      have hb5 : Below W.heap.size W (wr.alloc (.cells #[.bool true, .int .i64 o, .int .i64 b2, .int .i64 b3, .slice A1 n c1, .slice A2 m c2] 93)) := (HLOW.out.trans (HB.out.mono HLOW.out.size)).alloc (Nat.le_trans HLOW.out.size HB.out.size) _
      have hs5 : (wr.alloc (.cells #[.bool true, .int .i64 o, .int .i64 b2, .int .i64 b3, .slice A1 n c1, .slice A2 m c2] 93)).heap.size = wr.heap.size + 1 := by simp
      have hlx := HX.out.lt; have hlr := HRR.out.lt
      generalize wr.alloc (.cells #[.bool true, .int .i64 o, .int .i64 b2, .int .i64 b3, .slice A1 n c1, .slice A2 m c2] 93) = W5 at *
      obtain ⟨yb, hyb⟩ : ∃ yb, wr.heap.size = yb := ⟨_, rfl⟩
      rw [hyb] at hs5 hlx hlr hY5
      rw [hyb]
      have hb6 : Below W5.heap.size W5 (W5.alloc (.cells #[] 62)) := (Below.refl _ _).alloc (Nat.le_refl _) _
      have q4 := (hX5.alloc (.cells #[] 62)).cell 4
      simp only [List.getElem?_toArray, List.getElem?_cons_zero, List.getElem?_cons_succ] at q4
      have HX5 := Lib.hid hX5; have HR5 := Lib.hid hR5; have HY5 := Lib.hid hY5; have HB5 := Lib.hid hb5; have HS5 := Lib.hid hs5; have HLX := Lib.hid hlx; have HLR := Lib.hid hlr
      have HB6 := Lib.hid hb6
      have HSIN := Lib.hid (((HD.out.below hb5).below hb6).wts)
      have HWL := Lib.hid (wait_lit W5.heap.size W5 (Nat.le_refl _))
      rw [HN.out] at HSIN
      clear hX5 hR5 hY5 hb5 hs5 hlx hlr hyb hb6 HX HRR HB HD1
      go_wp2_with (at_builtin; refine haltC ?_)
      refine Lib.hid ?_
      refine app_waits rfl (.tmp 48) (.tmp 50) rfl D W5.heap.size (.slice (some ⟨W5.heap.size, 0, none⟩) 0 0) [] rfl HWL.out (.slice A1 n c1) E rfl (by rw [HN.out]; exact HSIN.out) (by simp) (by rw [HN.out]; omega) HB6.out.size ?_
      intro v6 w6 own6 b6
      have HO6 := Lib.hid own6; have HC6 := Lib.hid (HB6.out.trans b6)
      clear own6 b6 HWL HSIN HB6
      have hb7 : Below w6.heap.size w6 (w6.alloc (.cells #[.int .i64 t, .int .i64 s] 62)) := (Below.refl _ _).alloc (Nat.le_refl _) _
      have HO7 := Lib.hid (WaitR.but (X := Nob) HO6.out (But.of_below hb7) fun _ _ q => q)
      have HC7 := Lib.hid (HC6.out.trans (hb7.mono HC6.out.size))
      have HBS := Lib.hid (Blk.new w6 62 #[.int .i64 t, .int .i64 s])
      clear hb7 HO6 HC6
      go_wp2_with (at_builtin; refine haltC ?_)
      refine Lib.hid ?_
      refine app_wait rfl (.tmp 51) (.tmp 55) rfl W5.heap.size v6 E rfl HO7.out _ ⟨t, s, 0⟩ rfl HBS.out (by rw [HN.out]; omega) HC7.out.size ?_
      intro v8 w8 own8 gr8 bk8
      have hc8 : Below W5.heap.size W5 w8 := HC7.out.trans ((Below.refl _ _).grown gr8 HC7.out.size fun k hk => (World.ownsRow.lt HO7.out k hk).1)
      obtain ⟨g8, cap8, hv8, hcap8, hg8⟩ := WaitR.form own8 (by rw [List.length_append, HN.out]; simp)
      rw [List.length_append, HN.out] at hv8
      have hv8' : v8 = .slice (some ⟨g8, 0, none⟩) (n + 1) cap8 := hv8
      subst hv8'
      have HO8 := Lib.hid own8; have HC8 := Lib.hid hc8
      have hX8 := HX5.out.below hc8 (by have := HS5.out; have := HLX.out; omega)
      have hY8 := HY5.out.below hc8 (by have := HS5.out; omega)
      have hR8 := HR5.out.below hc8 (by have := HS5.out; have := HLR.out; omega)
      have y4 := hY8.cell 4; have yf := hY8.free 4
      simp only [List.getElem?_toArray, List.getElem?_cons_zero, List.getElem?_cons_succ] at y4
      have HX8 := Lib.hid hX8; have HY8 := Lib.hid hY8; have HR8 := Lib.hid hR8
      clear own8 gr8 bk8 hc8 hv8 hX8 hY8 hR8 HO7 HC7 HBS hcap8 hg8
      go_upto_region 15 with fail
      have hX9 : Blk (w8.setCell ⟨yb, 4, none⟩ (.slice (some ⟨g8, 0, none⟩) (n + 1) cap8)) xb 93 #[.bool true, .int .i64 o, .int .i64 b2, .int .i64 b3, .slice A1 n c1, .slice A2 m c2] := HX8.out.far (p := ⟨yb, 4, none⟩) (show xb ≠ yb by have := HLX.out; omega) _
      have hR9 : Blk (w8.setCell ⟨yb, 4, none⟩ (.slice (some ⟨g8, 0, none⟩) (n + 1) cap8)) (xb + 1) 93 #[.bool false, .int .i64 0, .int .i64 0, .int .i64 0, .slice none 0 0, .slice none 0 0] := HR8.out.far (p := ⟨yb, 4, none⟩) (show xb + 1 ≠ yb by have := HLR.out; omega) _
      have hY9 : Blk (w8.setCell ⟨yb, 4, none⟩ (.slice (some ⟨g8, 0, none⟩) (n + 1) cap8)) yb 93 #[.bool true, .int .i64 o, .int .i64 b2, .int .i64 b3, .slice (some ⟨g8, 0, none⟩) (n + 1) cap8, .slice A2 m c2] := HY8.out.set_ 4 _
      have hO9 := WaitR.but (X := fun x => x = yb) (w' := w8.setCell ⟨yb, 4, none⟩ (.slice (some ⟨g8, 0, none⟩) (n + 1) cap8)) HO8.out ((But.refl _ _).set ⟨yb, 4, none⟩ _ (.inl rfl)) fun g hg e => by have := (World.ownsRow.lt HO8.out g hg).1; have := HS5.out; omega
      have hb9 : Below W.heap.size W (w8.setCell ⟨yb, 4, none⟩ (.slice (some ⟨g8, 0, none⟩) (n + 1) cap8)) := (HB5.out.trans (HC8.out.mono HB5.out.size)).setCell (p := ⟨yb, 4, none⟩) (show W.heap.size ≤ yb by have := HXB.out; have := HLX.out; omega) _
      have hsz9 : W5.heap.size ≤ (w8.setCell ⟨yb, 4, none⟩ (.slice (some ⟨g8, 0, none⟩) (n + 1) cap8)).heap.size := by simpa using HC8.out.size
      generalize w8.setCell ⟨yb, 4, none⟩ (.slice (some ⟨g8, 0, none⟩) (n + 1) cap8) = W9 at *
      have hsin9 := (HD.out.below hb9).rnd
      obtain ⟨bq, hbq⟩ : ∃ b, ((rndL c).any fun x => x == s) = b := ⟨_, rfl⟩
      have P := Lib.hid (has14_any s hsin9 (by rw [HM.out]; omega))
      rw [HM.out, hbq] at P
      have HBQ := Lib.hid hbq
      have x5 := hX9.cell 5
      simp only [List.getElem?_toArray, List.getElem?_cons_zero, List.getElem?_cons_succ] at x5
      have HX9 := Lib.hid hX9; have HR9 := Lib.hid hR9; have HY9 := Lib.hid hY9; have HO9 := Lib.hid hO9; have HB9 := Lib.hid hb9; have HSZ9 := Lib.hid hsz9
      have HSIN9 := Lib.hid hsin9
      clear hX9 hR9 hY9 hO9 hb9 hsz9 hsin9 hbq HX8 HY8 HR8 HO8 HC8 HX5 HY5 HR5 HB5
      cases bq with
      | true =>
        go_upto_region 17 with (go_at_call 62; (with_reducible refine P.out.mono ?_); rintro e9 w9 ⟨rfl, rfl⟩)
        have q0 := HY9.out.cell 0; have q1 := HY9.out.cell 1; have q2 := HY9.out.cell 2; have q3 := HY9.out.cell 3; have q4 := HY9.out.cell 4; have q5 := HY9.out.cell 5
        simp only [List.getElem?_toArray, List.getElem?_cons_zero, List.getElem?_cons_succ] at q0 q1 q2 q3 q4 q5
        have r0 := HR9.out.free 0; have r1 := HR9.out.free 1; have r2 := HR9.out.free 2; have r3 := HR9.out.free 3; have r4 := HR9.out.free 4; have r5 := HR9.out.free 5
        have z0 := HR9.out.cell 0; have z1 := HR9.out.cell 1; have z2 := HR9.out.cell 2; have z3 := HR9.out.cell 3; have z4 := HR9.out.cell 4; have z5 := HR9.out.cell 5
        simp only [List.getElem?_toArray, List.getElem?_cons_zero, List.getElem?_cons_succ] at z0 z1 z2 z3 z4 z5
        go_wp2_with fail
        refine bodyPost_ret (results_lock3 rfl _ _ (xb + 1) _ rfl (stored6 HR9.out _ _ _ _ _ _) rfl) rfl ?_
        have hb10 := below6 HB9.out (show W.heap.size ≤ xb + 1 by have := HXB.out; omega) (.bool true) (.int .i64 o) (.int .i64 b2) (.int .i64 b3) (.slice (some ⟨g8, 0, none⟩) (n + 1) cap8) (.slice A2 m c2)
        have hu10 := but6 (But.refl (fun x => x = xb + 1) W9) rfl (.bool true) (.int .i64 o) (.int .i64 b2) (.int .i64 b3) (.slice (some ⟨g8, 0, none⟩) (n + 1) cap8) (.slice A2 m c2)
        refine HFW.out _ _ _ HWF.out ?_ (fun R hR => ?_) hb10
        · have := (WaitR.but HO9.out hu10 (fun g hg e => by have := (World.ownsRow.lt HO9.out g hg).1; have := HS5.out; have := HLR.out; omega)).sin (D := Since D W) (fun g hg => .inr (by have := HS5.out; have := HXB.out; have := HLX.out; omega))
          rwa [List.length_append, HN.out] at this
        · rw [HBQ.out, if_pos rfl] at hR
          subst hR
          rw [HM.out]
          have := ((HD.out.mono (D' := Since D W) fun _ _ q => Or.inl q).below hb10).rnd
          rwa [HM.out] at this
      | false =>
        have hb6 : Below W9.heap.size W9 (W9.alloc (.cells #[] 3)) := (Below.refl _ _).alloc (Nat.le_refl _) _
        have y5 := (HX9.out.alloc (.cells #[] 3)).cell 5
        simp only [List.getElem?_toArray, List.getElem?_cons_zero, List.getElem?_cons_succ] at y5
        have HB6 := Lib.hid hb6
        have HSIN := Lib.hid (HSIN9.out.below hb6)
        have HWL := Lib.hid (mine_lit W9.heap.size W9 (Nat.le_refl _))
        rw [HM.out] at HSIN
        clear hb6 HSIN9
        go_wp2_with (first
          | (go_at_call 62; (with_reducible refine P.out.mono ?_); rintro e9 w9 ⟨rfl, rfl⟩)
          | (at_builtin; refine haltC ?_))
        refine Lib.hid ?_
        refine app_nums rfl (.tmp 63) (.tmp 65) rfl D W9.heap.size (.slice (some ⟨W9.heap.size, 0, none⟩) 0 0) [] rfl HWL.out (.slice A2 m c2) (rndL c) rfl (by rw [HM.out]; exact HSIN.out) (by simp) (by rw [HM.out]; omega) HB6.out.size ?_
        intro v11 w11 own11 b11
        have HO11 := Lib.hid own11; have HC11 := Lib.hid (HB6.out.trans b11)
        clear own11 b11 HWL HSIN HB6 P
        have hb7 : Below w11.heap.size w11 (w11.alloc (.cells #[.int .i64 s] 3)) := (Below.refl _ _).alloc (Nat.le_refl _) _
        have HO12 := Lib.hid (MineN.on HO11.out hb7)
        have HC12 := Lib.hid (HC11.out.trans (hb7.mono HC11.out.size))
        have hbs := (Blk.new w11 3 #[.int .i64 s]).cell 0
        simp only [List.getElem?_toArray, List.getElem?_cons_zero] at hbs
        have HBS := Lib.hid hbs
        clear hb7 hbs HO11 HC11
        go_wp2_with (at_builtin; refine haltC ?_)
        refine Lib.hid ?_
        refine app_num rfl (.tmp 66) (.tmp 68) rfl W9.heap.size v11 (rndL c) rfl HO12.out _ s rfl HBS.out (by rw [HM.out]; omega) HC12.out.size ?_
        intro v13 w13 own13 gr13 bk13
        have hc13 : Below W9.heap.size W9 w13 := HC12.out.trans ((Below.refl _ _).grown gr13 HC12.out.size fun k hk => (World.ownsRow.lt HO12.out k hk).1)
        obtain ⟨g13, cap13, hv13, hg13⟩ := MineN.form own13 (by simp)
        rw [List.length_append, HM.out] at hv13
        have hv13' : v13 = .slice (some ⟨g13, 0, none⟩) (m + 1) cap13 := hv13
        subst hv13'
        have hY13 := HY9.out.below hc13 HY9.out.lt
        have hR13 := HR9.out.below hc13 HR9.out.lt
        have y6 := hY13.cell 5; have yf := hY13.free 5
        simp only [List.getElem?_toArray, List.getElem?_cons_zero, List.getElem?_cons_succ] at y6
        have HY13 := Lib.hid hY13; have HR13 := Lib.hid hR13; have HO13 := Lib.hid own13; have HC13 := Lib.hid hc13; have HG13 := Lib.hid hg13
        clear own13 gr13 bk13 hc13 hv13 hY13 hR13 hg13 HO12 HC12 HBS y5
        go_upto_region 17 with fail
        have hY14 : Blk (w13.setCell ⟨yb, 5, none⟩ (.slice (some ⟨g13, 0, none⟩) (m + 1) cap13)) yb 93 #[.bool true, .int .i64 o, .int .i64 b2, .int .i64 b3, .slice (some ⟨g8, 0, none⟩) (n + 1) cap8, .slice (some ⟨g13, 0, none⟩) (m + 1) cap13] := HY13.out.set_ 5 _
        have hR14 : Blk (w13.setCell ⟨yb, 5, none⟩ (.slice (some ⟨g13, 0, none⟩) (m + 1) cap13)) (xb + 1) 93 #[.bool false, .int .i64 0, .int .i64 0, .int .i64 0, .slice none 0 0, .slice none 0 0] := HR13.out.far (p := ⟨yb, 5, none⟩) (show xb + 1 ≠ yb by have := HLR.out; omega) _
        have hu13 := (But.refl (fun x => x = yb) w13).set ⟨yb, 5, none⟩ (.slice (some ⟨g13, 0, none⟩) (m + 1) cap13) (.inl rfl)
        have hO14 := WaitR.but (X := fun x => x = yb) (WaitR.but (X := Nob) HO9.out (But.of_below HC13.out) fun _ _ q => q) hu13 fun g hg e => by have := (World.ownsRow.lt HO9.out g hg).1; have := HS5.out; omega
        have hN14 : MineN W9.heap.size (.slice (some ⟨g13, 0, none⟩) (m + 1) cap13) (rndL c ++ [s]) (w13.setCell ⟨yb, 5, none⟩ (.slice (some ⟨g13, 0, none⟩) (m + 1) cap13)) := World.ownsRow.kept HO13.out (row := some yb) ⟨rfl, rfl, rfl, by simp, fun k hk hne => Below.heap_setCell w13 ⟨yb, 5, none⟩ _ k (fun e => hne (by rw [e]))⟩ (.inr (by intro e; have e' : some g13 = some yb := e; cases e'; have := HY9.out.lt; have := HG13.out; omega))
        have hb14 : Below W.heap.size W (w13.setCell ⟨yb, 5, none⟩ (.slice (some ⟨g13, 0, none⟩) (m + 1) cap13)) := (HB9.out.trans (HC13.out.mono HB9.out.size)).setCell (p := ⟨yb, 5, none⟩) (show W.heap.size ≤ yb by have := HXB.out; have := HLX.out; omega) _
        generalize w13.setCell ⟨yb, 5, none⟩ (.slice (some ⟨g13, 0, none⟩) (m + 1) cap13) = W14 at *
        have q0 := hY14.cell 0; have q1 := hY14.cell 1; have q2 := hY14.cell 2; have q3 := hY14.cell 3; have q4 := hY14.cell 4; have q5 := hY14.cell 5
        simp only [List.getElem?_toArray, List.getElem?_cons_zero, List.getElem?_cons_succ] at q0 q1 q2 q3 q4 q5
        have r0 := hR14.free 0; have r1 := hR14.free 1; have r2 := hR14.free 2; have r3 := hR14.free 3; have r4 := hR14.free 4; have r5 := hR14.free 5
        have z0 := hR14.cell 0; have z1 := hR14.cell 1; have z2 := hR14.cell 2; have z3 := hR14.cell 3; have z4 := hR14.cell 4; have z5 := hR14.cell 5
        simp only [List.getElem?_toArray, List.getElem?_cons_zero, List.getElem?_cons_succ] at z0 z1 z2 z3 z4 z5
        have HO14 := Lib.hid hO14; have HN14 := Lib.hid hN14; have HB14 := Lib.hid hb14; have HR14 := Lib.hid hR14
        clear hO14 hN14 hb14 hR14 hY14 hu13 y6 yf
        go_wp2_with fail
        refine bodyPost_ret (results_lock3 rfl _ _ (xb + 1) _ rfl (stored6 HR14.out _ _ _ _ _ _) rfl) rfl ?_
        have hb15 := below6 HB14.out (show W.heap.size ≤ xb + 1 by have := HXB.out; omega) (.bool true) (.int .i64 o) (.int .i64 b2) (.int .i64 b3) (.slice (some ⟨g8, 0, none⟩) (n + 1) cap8) (.slice (some ⟨g13, 0, none⟩) (m + 1) cap13)
        have hu15 := but6 (But.refl (fun x => x = xb + 1) W14) rfl (.bool true) (.int .i64 o) (.int .i64 b2) (.int .i64 b3) (.slice (some ⟨g8, 0, none⟩) (n + 1) cap8) (.slice (some ⟨g13, 0, none⟩) (m + 1) cap13)
        refine HFW.out _ _ _ HWF.out ?_ (fun R hR => ?_) hb15
        · have := (WaitR.but HO14.out hu15 (fun g hg e => by have := (World.ownsRow.lt HO14.out g hg).1; have := HS5.out; have := HLR.out; omega)).sin (D := Since D W) (fun g hg => .inr (by have := HS5.out; have := HXB.out; have := HLX.out; omega))
          rwa [List.length_append, HN.out] at this
        · rw [HBQ.out, if_neg (by simp)] at hR
          subst hR
          have hs := ((SIn.of_owns HN14.out).but hu15 (fun g hg e => by have := HR9.out.lt; omega)).mono (D' := Since D W) (fun g _ hg => .inr (by have := HSZ9.out; have := HS5.out; have := HXB.out; have := HLX.out; omega))
          exact hs
set_option maxHeartbeats 8000000 in
theorem dtake_any (t s : Int) (h : DLk D c E wv rv W) (hr : RelC c E) (hE : E.length ≤ 900) (hR : (rndL c).length ≤ 900) : Calls Try.prog 41 #[.agg (dcells c wv rv).toArray, .int .i64 t, .int .i64 s] W (DTakeP D c E t s W) := by
  obtain ⟨A1, n1, c1, rfl⟩ := h.wts.slice
  obtain ⟨A2, n2, c2, rfl⟩ := h.rnd.slice
  have HD := Lib.hid h
  have HR := Lib.hid hr
  clear h
  unfold dcells
  by_cases hts : t < 0 ∨ s < 0
  · have HT : Hid (takeE c t s = (false, 1)) := by show _ = _; unfold takeE; rw [if_pos hts]
    obtain ⟨b0, hb0⟩ : ∃ b, heldD c = b := ⟨_, rfl⟩
    obtain ⟨b1, hb1⟩ : ∃ b, ownD c = b := ⟨_, rfl⟩
    obtain ⟨b2, hb2⟩ : ∃ b, c.soc = b := ⟨_, rfl⟩
    obtain ⟨b3, hb3⟩ : ∃ b, c.pas = b := ⟨_, rfl⟩
    have HF : Hid (∀ w', Below W.heap.size W w' → DTakeP D c E t s W (.returned (.tuple #[.agg #[.bool b0, .int .i64 b1, .int .i64 b2, .int .i64 b3, .slice A1 n1 c1, .slice A2 n2 c2], .bool false, .int .i64 1])) w') := fun w' hb => by
      have := dtake_no HD.out HT.out (by decide) hb
      unfold dcells at this
      rwa [hb0, hb1, hb2, hb3] at this
    rw [hb0, hb1, hb2, hb3]
    clear hb0 hb1 hb2 hb3 HT HD HR hr
    by_cases ht : t < 0
    · clear hts
      go_enter Try.func41, Try.ntmps41
      go_wp2_with fail
      refine bodyPost_ret (results_lock3 rfl _ _ (W.heap.size + 1) _ rfl (blk_new2 _ _ _ _) rfl) rfl ?_
      exact HF.out _ (((Below.refl _ _).alloc (Nat.le_refl _) _).alloc (by simp) _)
    · have hs : s < 0 := by omega
      clear hts
      go_enter Try.func41, Try.ntmps41
      go_wp2_with fail
      refine bodyPost_ret (results_lock3 rfl _ _ (W.heap.size + 1) _ rfl (blk_new2 _ _ _ _) rfl) rfl ?_
      exact HF.out _ (((Below.refl _ _).alloc (Nat.le_refl _) _).alloc (by simp) _)
  · have ht : ¬ t < 0 := fun q => hts (.inl q)
    have hs : ¬ s < 0 := fun q => hts (.inr q)
    clear hts
    by_cases hot : c.own = t
    · have HT : Hid (takeE c t s = (false, 8)) := by show _ = _; unfold takeE; rw [if_neg (by omega), if_pos hot]
      have hn1 : c.own ≠ -1 := by omega
      have e0 : heldD c = true := by unfold heldD; simpa using hn1
      have e1 : ownD c = t := by unfold ownD; rw [if_neg hn1, hot]
      obtain ⟨b2, hb2⟩ : ∃ b, c.soc = b := ⟨_, rfl⟩
      obtain ⟨b3, hb3⟩ : ∃ b, c.pas = b := ⟨_, rfl⟩
      have HF : Hid (∀ w', Below W.heap.size W w' → DTakeP D c E t s W (.returned (.tuple #[.agg #[.bool true, .int .i64 t, .int .i64 b2, .int .i64 b3, .slice A1 n1 c1, .slice A2 n2 c2], .bool false, .int .i64 8])) w') := fun w' hb => by
        have := dtake_no HD.out HT.out (by decide) hb
        unfold dcells at this
        rwa [e0, e1, hb2, hb3] at this
      rw [e0, e1, hb2, hb3]
      clear e0 e1 hb2 hb3 HT HD HR hr hot hn1
      go_enter Try.func41, Try.ntmps41
      go_wp2_with fail
      refine bodyPost_ret (results_lock3 rfl _ _ (W.heap.size + 1) _ rfl (blk_new2 _ _ _ _) rfl) rfl ?_
      exact HF.out _ (((Below.refl _ _).alloc (Nat.le_refl _) _).alloc (by simp) _)
    · by_cases hown : c.own = -1
      · have := dtake_free t s ht hs HR.out hown HD.out
        unfold dcells at this
        exact this
      · have := dtake_wait t s ht hs HR.out hown hot HD.out hE hR
        unfold dcells at this
        exact this
end
end Go.Proofs.Ytdomgipbadimmaa
