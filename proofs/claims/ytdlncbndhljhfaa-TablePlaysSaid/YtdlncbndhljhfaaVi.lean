/- Both tables' calls, by plain functions of the tasks and the waits (layer 12). -/
import Derived.Test.YtdlncbndhljhfaaVh
import Derived.Test.YtdlncbndhljhfaaVa
namespace Go.Proofs.Ytdlncbndhljhfaa
open Go.RowKit

/-- The rows of the code's table say what the document's waits say. -/
structure RelW (r n : Nat) (ls : Nat → List Nat) (ws : List (Nat × Nat)) : Prop where
  eq : ∀ k, k < r → ls k = namedW ws k
  nd : (ws.map (·.1)).Nodup
  lt : ∀ y ∈ ws, y.1 < n ∧ y.2 < n
theorem mem_named {ws : List (Nat × Nat)} {x k : Nat} : x ∈ namedW ws k ↔ (x, k) ∈ ws := by
  unfold namedW
  rw [List.mem_map]
  constructor
  · rintro ⟨⟨a, b⟩, h, rfl⟩
    rw [List.mem_filter] at h
    have h2 : (b : Int) = (k : Int) := by simpa using h.2
    have : b = k := by omega
    subst this
    exact h.1
  · intro h
    exact ⟨(x, k), List.mem_filter.2 ⟨h, by simp⟩, rfl⟩
section
variable {r n n' : Nat} {ls : Nat → List Nat} {ws : List (Nat × Nat)}
theorem RelW.nil : RelW r n (fun _ => []) [] := ⟨fun _ _ => rfl, by simp, by simp⟩
theorem RelW.grow (h : RelW r n ls ws) (hn : n ≤ n') : RelW r n' ls ws := ⟨h.eq, h.nd, fun y hy => by have := h.lt y hy; omega⟩
theorem RelW.free (h : RelW r n ls ws) {i : Nat} (hi : ∀ y ∈ ws, y.1 ≠ i) : ∀ j, j < r → i ∉ ls j := fun j hj q => by
  rw [h.eq j hj] at q
  exact hi _ (mem_named.1 q) rfl
theorem RelW.there (h : RelW r n ls ws) (hn : n ≤ r) {i : Nat} (hi : ws.any (fun y => (y.1 : Int) == (i : Int)) = true) : ∃ j, j < r ∧ i ∈ ls j := by
  obtain ⟨⟨a, b⟩, hy, e⟩ := List.any_eq_true.1 hi
  have e2 : (a : Int) = (i : Int) := by simpa using e
  have e' : a = i := by omega
  subst e'
  have := h.lt _ hy
  exact ⟨b, by have := this.2; dsimp only at this; omega, by rw [h.eq b (by have := this.2; dsimp only at this; omega)]; exact mem_named.2 hy⟩
theorem any_free {i : Nat} (h : ws.any (fun y => (y.1 : Int) == (i : Int)) = false) : ∀ y ∈ ws, y.1 ≠ i := fun y hy e => by
  have := List.any_eq_false.1 h y hy
  simp [e] at this
theorem RelW.len (h : RelW r n ls ws) {i : Nat} (hi : i < n) (hf : ∀ y ∈ ws, y.1 ≠ i) : ws.length < n := by
  have h1 : (i :: ws.map (·.1)).Nodup := List.nodup_cons.2 ⟨fun q => by
    obtain ⟨y, hy, e⟩ := List.mem_map.1 q
    exact hf y hy e, h.nd⟩
  have h2 := nodup_len (n := n) h1 (fun x hx => by
    rcases List.mem_cons.1 hx with rfl | hx
    · exact hi
    · obtain ⟨y, hy, rfl⟩ := List.mem_map.1 hx
      exact (h.lt y hy).1)
  simp at h2
  omega
theorem RelW.join (h : RelW r n ls ws) {i o : Nat} (hi : i < n) (ho : o < n) (hf : ∀ y ∈ ws, y.1 ≠ i) : RelW r n (updL ls o (ls o ++ [i])) (ws ++ [(i, o)]) := by
  refine ⟨fun k hk => ?_, ?_, fun y hy => ?_⟩
  · by_cases q : k = o
    · subst q
      rw [updL_same, h.eq k hk]
      unfold namedW
      simp
    · rw [updL_other _ _ q, h.eq k hk]
      unfold namedW
      have : ¬ ((o : Int) = (k : Int)) := by omega
      simp [this]
  · rw [List.map_append]
    refine List.nodup_append.2 ⟨h.nd, by simp, fun a ha b hb => ?_⟩
    obtain ⟨y, hy, rfl⟩ := List.mem_map.1 ha
    simp at hb
    subst hb
    exact hf y hy
  · rcases List.mem_append.1 hy with hy | hy
    · exact h.lt y hy
    · simp at hy; subst hy; exact ⟨hi, ho⟩
theorem left_mem {on : Int} {y : Nat × Nat} (h : y ∈ leftW ws on) : y ∈ ws := (List.mem_filter.1 h).1
theorem RelW.joined (h : RelW r n ls ws) (o : Nat) : RelW r n (updL ls o []) (leftW ws o) := by
  refine ⟨fun k hk => ?_, ?_, fun y hy => h.lt y (left_mem hy)⟩
  · by_cases q : k = o
    · subst q
      rw [updL_same]
      unfold namedW leftW
      rw [List.filter_filter]
      simp
    · rw [updL_other _ _ q, h.eq k hk]
      unfold namedW leftW
      rw [List.filter_filter]
      congr 1
      apply List.filter_congr
      intro y _
      by_cases e : (y.2 : Int) = (k : Int)
      · have : ¬ ((y.2 : Int) = (o : Int)) := by omega
        simp [e]; omega
      · simp [e]
  · exact h.nd.sublist (List.Sublist.map _ (List.filter_sublist))
theorem RelW.out (h : RelW r n ls ws) {on : Int} (ho : ¬ (0 ≤ on ∧ on < (n : Int))) : namedW ws on = [] ∧ leftW ws on = ws := by
  have hq : ∀ y ∈ ws, ¬ ((y.2 : Int) = on) := fun y hy e => by have := (h.lt y hy).2; omega
  constructor
  · unfold namedW
    rw [List.filter_eq_nil_iff.2 (fun y hy => by simpa using hq y hy)]; rfl
  · unfold leftW
    exact List.filter_eq_self.2 (fun y hy => by simpa using hq y hy)
end
section
variable {b c gl gn room : Nat} {v : Value} {ts : List (List Value)} {ls : Nat → List Nat} {ws : List (Nat × Nat)} {w : World}
theorem tadd_all (cs : List Value) (ho : OkT cs) (h : TabC b c gl gn v room ts ls w) :
    Calls Try.prog 19 #[.pointer (some ⟨b, 0, none⟩), .agg cs.toArray] w fun e w' => e = .returned (.tuple #[.int .i64 (addE ts room cs).1, .int .i64 (addE ts room cs).2]) ∧ ∃ v', TabC b c gl gn v' room (addT ts room cs) ls w' ∧ But (OwnT b c gl gn v) w w' ∧ ∀ g, v'.ownBlock = some g → v.ownBlock = some g ∨ w.heap.size ≤ g := by
  unfold addT addE
  cases hm : mayT cs with
  | false =>
    refine (add_bad cs ho hm w).mono ?_
    rintro e w' ⟨rfl, hb⟩
    exact ⟨rfl, v, h.below hb, But.of_below hb, fun g hg => .inl hg⟩
  | true =>
    simp only [↓reduceIte]
    by_cases hq : room ≤ ts.length
    · rw [if_pos hq]
      refine (add_full cs ho hm ts.length room hq w (fun _ hb => tlen_any (h.below hb)) (fun _ hb => troom_any (h.below hb))).mono ?_
      rintro e w' ⟨rfl, hb⟩
      exact ⟨rfl, v, h.below hb, But.of_below hb, fun g hg => .inl hg⟩
    · rw [if_neg hq]
      refine (add_ok cs ho hm h (by omega)).mono ?_
      rintro e w' ⟨v', rfl, ht, hb, hg⟩
      exact ⟨rfl, v', ht, hb, hg⟩
theorem tset_all (i : Int) (cs : List Value) (ho : OkT cs) (h : TabC b c gl gn v room ts ls w) :
    Calls Try.prog 20 #[.pointer (some ⟨b, 0, none⟩), .int .i64 i, .agg cs.toArray] w fun e w' => e = .returned (.int .i64 (setE ts i cs)) ∧ TabC b c gl gn v room (setT ts i cs) ls w' ∧ But (OwnT b c gl gn v) w w' := by
  by_cases hin : 0 ≤ i ∧ i < (ts.length : Int)
  · obtain ⟨k, rfl⟩ : ∃ k : Nat, i = k := ⟨i.toNat, by omega⟩
    have hk : k < ts.length := by omega
    obtain ⟨x, hx⟩ : ∃ x, ts[k]? = some x := ⟨_, List.getElem?_eq_getElem hk⟩
    have hse : setE ts (k : Int) cs = if mayT cs then (if fld x 25 = 8 then 5 else 0) else 1 := by
      unfold setE; rw [if_pos hin, show (k : Int).toNat = k by omega, hx]; rfl
    cases hm : mayT cs with
    | false =>
      rw [hm] at hse
      have hst : setT ts (k : Int) cs = ts := by unfold setT; rw [hse]; rfl
      rw [hse, hst]
      refine (tset_bad k cs ho hm h hk).mono ?_
      rintro e w' ⟨rfl, hb⟩
      exact ⟨rfl, h.below hb, But.of_below hb⟩
    | true =>
      rw [hm] at hse
      simp only [↓reduceIte] at hse
      refine (tset_at k cs x ho hm h hx).mono ?_
      rintro e w' (⟨h8, rfl, hb⟩ | ⟨h8, rfl, ht, hb⟩)
      · rw [if_pos h8] at hse
        have hst : setT ts (k : Int) cs = ts := by unfold setT; rw [hse]; rfl
        rw [hse, hst]
        exact ⟨rfl, h.below hb, But.of_below hb⟩
      · rw [if_neg h8] at hse
        have hst : setT ts (k : Int) cs = ts.set k cs := by unfold setT; rw [hse, if_pos rfl, show (k : Int).toNat = k by omega]
        rw [hse, hst]
        exact ⟨rfl, ht, hb⟩
  · have hse : setE ts i cs = 3 := by unfold setE; rw [if_neg hin]
    have hst : setT ts i cs = ts := by unfold setT; rw [hse]; rfl
    rw [hse, hst]
    refine (tset_none i ts.length cs w (inB_no (by omega)) (fun _ hb => tlen_any (h.below hb))).mono ?_
    rintro e w' ⟨rfl, hb⟩
    exact ⟨rfl, h.below hb, But.of_below hb⟩
theorem tjoin_all (id on : Int) (h : TabC b c gl gn v room ts ls w) (hr : RelW room ts.length ls ws) :
    Calls Try.prog 21 #[.pointer (some ⟨b, 0, none⟩), .int .i64 id, .int .i64 on] w fun e w' => e = .returned (.int .i64 (joinE ts ws id on)) ∧ ∃ ls', TabC b c gl gn v room ts ls' w' ∧ RelW room ts.length ls' (joinW ts ws id on) ∧ But (OwnT b c gl gn v) w w' := by
  have hle := h.le
  by_cases hin : 0 ≤ id ∧ id < (ts.length : Int) ∧ 0 ≤ on ∧ on < (ts.length : Int)
  · obtain ⟨i, rfl⟩ : ∃ i : Nat, id = i := ⟨id.toNat, by omega⟩
    obtain ⟨o, rfl⟩ : ∃ o : Nat, on = o := ⟨on.toNat, by omega⟩
    have hi : i < ts.length := by omega
    have hk : o < ts.length := by omega
    obtain ⟨x, hx⟩ : ∃ x, ts[o]? = some x := ⟨_, List.getElem?_eq_getElem hk⟩
    have hje : joinE ts ws (i : Int) (o : Int) = if (i : Int) = (o : Int) then 1 else if fld x 25 = 8 then 5 else if ws.any (fun y => (y.1 : Int) == (i : Int)) then 9 else 0 := by
      unfold joinE; rw [if_pos hin, show (o : Int).toNat = o by omega, hx]; rfl
    by_cases hio : i = o
    · subst hio
      rw [if_pos rfl] at hje
      have hjw : joinW ts ws (i : Int) (i : Int) = ws := by unfold joinW; rw [hje]; rfl
      rw [hje, hjw]
      refine (join_same i h hi).mono ?_
      rintro e w' ⟨rfl, rfl⟩
      exact ⟨rfl, ls, h, hr, But.refl _ _⟩
    · rw [if_neg (by omega)] at hje
      by_cases h8 : fld x 25 = 8
      · rw [if_pos h8] at hje
        have hjw : joinW ts ws (i : Int) (o : Int) = ws := by unfold joinW; rw [hje]; rfl
        rw [hje, hjw]
        refine (join_exited i o x h hi hx hio h8).mono ?_
        rintro e w' ⟨rfl, rfl⟩
        exact ⟨rfl, ls, h, hr, But.refl _ _⟩
      · rw [if_neg h8] at hje
        cases ha : ws.any (fun y => (y.1 : Int) == (i : Int)) with
        | true =>
          rw [ha, if_pos rfl] at hje
          have hjw : joinW ts ws (i : Int) (o : Int) = ws := by unfold joinW; rw [hje]; rfl
          rw [hje, hjw]
          obtain ⟨j, hj, hm⟩ := hr.there hle ha
          refine (join_twice i o j x h hi hx hio h8 hj hm).mono ?_
          rintro e w' ⟨rfl, rfl⟩
          exact ⟨rfl, ls, h, hr, But.refl _ _⟩
        | false =>
          rw [ha, if_neg (by decide)] at hje
          have hjw : joinW ts ws (i : Int) (o : Int) = ws ++ [(i, o)] := by unfold joinW; rw [hje, if_pos rfl]; simp
          rw [hje, hjw]
          have hf := any_free ha
          refine (join_ok i o x h hi hx hio h8 (hr.free hf)).mono ?_
          rintro e w' ⟨rfl, ht, hb⟩
          exact ⟨rfl, _, ht, hr.join hi hk hf, hb⟩
  · have hje : joinE ts ws id on = 3 := by unfold joinE; rw [if_neg hin]
    have hjw : joinW ts ws id on = ws := by unfold joinW; rw [hje]; rfl
    rw [hje, hjw]
    have hq : inB id ts.length = false ∨ inB on ts.length = false := by
      by_cases q : 0 ≤ id ∧ id < (ts.length : Int)
      · right; exact inB_no (by omega)
      · left; exact inB_no (by omega)
    refine (join_none id on ts.length (tlen_any h) hq).mono ?_
    rintro e w' ⟨rfl, rfl⟩
    exact ⟨rfl, ls, h, hr, But.refl _ _⟩
theorem tjoined_all (on : Int) (h : TabC b c gl gn v room ts ls w) (hr : RelW room ts.length ls ws) :
    Calls Try.prog 24 #[.pointer (some ⟨b, 0, none⟩), .int .i64 on] w fun e w' => ∃ u ls', e = .returned u ∧ MineN w.heap.size u (asI (namedW ws on)) w' ∧ TabC b c gl gn v room ts ls' w' ∧ RelW room ts.length ls' (leftW ws on) ∧ But (OwnT b c gl gn v) w w' := by
  have hle := h.le
  by_cases hin : 0 ≤ on ∧ on < (ts.length : Int)
  · obtain ⟨o, rfl⟩ : ∃ o : Nat, on = o := ⟨on.toNat, by omega⟩
    refine (joined_any o h (by omega)).mono ?_
    rintro e w' ⟨u, rfl, hm, ht, hb⟩
    refine ⟨u, _, rfl, ?_, ht, hr.joined o, hb⟩
    rw [← hr.eq o (by omega)]; exact hm
  · obtain ⟨e1, e2⟩ := hr.out hin
    rw [e1, e2]
    have H1 := has_any on h
    rw [inB_no (by omega)] at H1
    refine (joined_none on w H1).mono ?_
    rintro e w' ⟨rfl, rfl⟩
    exact ⟨_, ls, rfl, mineN_nil _ _, h, hr, But.refl _ _⟩
end
section
variable {tb most : Nat} {vL vW : Value} {ts : List (List Value)} {ws : List (Nat × Nat)} {ls : Nat → List Nat} {w : World}
theorem djoin_all (id on : Int) (h : TabR tb vL vW most ts ws w) {r : Nat} (hr : RelW r ts.length ls ws) :
    Calls Try.prog 45 #[.pointer (some ⟨tb, 0, none⟩), .int .i64 id, .int .i64 on] w fun e w' => e = .returned (.int .i64 (joinE ts ws id on)) ∧ ∃ vW', TabR tb vL vW' most ts (joinW ts ws id on) w' ∧ But (OwnR tb vL vW) w w' ∧ ∀ g, vW'.ownBlock = some g → vW.ownBlock = some g ∨ w.heap.size ≤ g := by
  have hlim := h.lim.1
  by_cases hin : 0 ≤ id ∧ id < (ts.length : Int) ∧ 0 ≤ on ∧ on < (ts.length : Int)
  · obtain ⟨i, rfl⟩ : ∃ i : Nat, id = i := ⟨id.toNat, by omega⟩
    obtain ⟨o, rfl⟩ : ∃ o : Nat, on = o := ⟨on.toNat, by omega⟩
    have hi : i < ts.length := by omega
    have hk : o < ts.length := by omega
    have hje : joinE ts ws (i : Int) (o : Int) = if (i : Int) = (o : Int) then 1 else if fld (ts[o]?.getD []) 25 = 8 then 5 else if ws.any (fun y => (y.1 : Int) == (i : Int)) then 9 else 0 := by
      unfold joinE; rw [if_pos hin, show (o : Int).toNat = o by omega]
    by_cases hio : i = o
    · subst hio
      rw [if_pos rfl] at hje
      have hjw : joinW ts ws (i : Int) (i : Int) = ws := by unfold joinW; rw [hje]; rfl
      rw [hje, hjw]
      refine (djoin_self i h hi).mono ?_
      rintro e w' ⟨rfl, hb⟩
      exact ⟨rfl, vW, h.below hb, But.of_below hb, fun g hg => .inl hg⟩
    · rw [if_neg (by omega)] at hje
      by_cases h8 : fld (ts[o]?.getD []) 25 = 8
      · rw [if_pos h8] at hje
        have hjw : joinW ts ws (i : Int) (o : Int) = ws := by unfold joinW; rw [hje]; rfl
        rw [hje, hjw]
        refine (djoin_over i o h hi hk hio h8).mono ?_
        rintro e w' ⟨rfl, hb⟩
        exact ⟨rfl, vW, h.below hb, But.of_below hb, fun g hg => .inl hg⟩
      · rw [if_neg h8] at hje
        refine (djoin_go i o h hi hk hio h8 (fun hf => by have := hr.len hi hf; omega)).mono ?_
        rintro e w' (⟨ha, rfl, hb⟩ | ⟨ha, rfl, vW', ht, hb, hg⟩)
        · rw [ha, if_pos rfl] at hje
          have hjw : joinW ts ws (i : Int) (o : Int) = ws := by unfold joinW; rw [hje]; rfl
          rw [hje, hjw]
          exact ⟨rfl, vW, h.below hb, But.of_below hb, fun g hg => .inl hg⟩
        · rw [ha, if_neg (by decide)] at hje
          have hjw : joinW ts ws (i : Int) (o : Int) = ws ++ [(i, o)] := by unfold joinW; rw [hje, if_pos rfl]; simp
          rw [hje, hjw]
          exact ⟨rfl, vW', ht, hb, fun g hg' => .inr (hg g hg')⟩
  · have hje : joinE ts ws id on = 3 := by unfold joinE; rw [if_neg hin]
    have hjw : joinW ts ws id on = ws := by unfold joinW; rw [hje]; rfl
    rw [hje, hjw]
    refine (djoin_out id on h hin).mono ?_
    rintro e w' ⟨rfl, hb⟩
    exact ⟨rfl, vW, h.below hb, But.of_below hb, fun g hg => .inl hg⟩
end
end Go.Proofs.Ytdlncbndhljhfaa
