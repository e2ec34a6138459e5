/-
  WHAT A TREE AND ITS KIDS BREAK: plain facts. Nothing of the program stands here but what its functions were found to answer.
-/
import Derived.Test.YtkmphiakciihfaaDoorTrI
import Derived.Test.YtkmphiakciihfaaDoorTrT
namespace Go.Proofs.YtkmphiakciihfaaDoor
open Go.RowKit

/-- The first of some nodes that breaks a rule by itself: the rule, and how many stand ahead of it; (0, -1): none. -/
def fbT (q : Int → List Nat → Bool) : List Tr → Int × Int
  | [] => (0, -1)
  | t :: ts => if brokenN q t = 0 then (if (fbT q ts).1 = 0 then (0, -1) else ((fbT q ts).1, (fbT q ts).2 + 1)) else (brokenN q t, 0)

theorem broken_range (q : Int → List Nat → Bool) (t : Tr) : 0 ≤ brokenN q t ∧ brokenN q t ≤ 4 := by
  unfold brokenN
  repeat' split
  all_goals omega

theorem fbT_range (q : Int → List Nat → Bool) (l : List Tr) : ((fbT q l).1 = 0 ∧ (fbT q l).2 = -1) ∨ (0 < (fbT q l).1 ∧ (fbT q l).1 ≤ 4 ∧ 0 ≤ (fbT q l).2 ∧ (fbT q l).2 < (l.length : Int)) := by
  induction l with
  | nil => exact .inl ⟨rfl, rfl⟩
  | cons t ts ih =>
    have hb := broken_range q t
    unfold fbT
    by_cases h : brokenN q t = 0
    · rw [if_pos h]
      by_cases h2 : (fbT q ts).1 = 0
      · rw [if_pos h2]; exact .inl ⟨rfl, rfl⟩
      · rw [if_neg h2]
        rcases ih with ⟨h3, -⟩ | ⟨h3, h4, h5, h6⟩
        · exact absurd h3 h2
        · exact .inr ⟨h3, h4, by dsimp only; omega, by dsimp only; rw [List.length_cons]; omega⟩
    · rw [if_neg h]
      exact .inr ⟨by dsimp only; omega, by dsimp only; omega, by dsimp only; omega, by dsimp only; rw [List.length_cons]; omega⟩

theorem fbT_append (q : Int → List Nat → Bool) (l m : List Tr) : fbT q (l ++ m) = if (fbT q l).1 = 0 then (if (fbT q m).1 = 0 then (0, -1) else ((fbT q m).1, (l.length : Int) + (fbT q m).2)) else fbT q l := by
  induction l with
  | nil =>
    show fbT q m = _
    rw [if_pos (show (fbT q []).1 = 0 from rfl)]
    rcases fbT_range q m with ⟨h1, h2⟩ | ⟨h1, -, -, -⟩
    · rw [if_pos h1]; exact Prod.ext h1 h2
    · rw [if_neg (by omega)]; exact Prod.ext rfl (by simp)
  | cons t ts ih =>
    rw [List.cons_append, fbT, fbT, ih]
    by_cases h : brokenN q t = 0
    · rw [if_pos h, if_pos h]
      by_cases h2 : (fbT q ts).1 = 0
      · rw [if_pos h2, if_pos h2, if_pos rfl]
        by_cases h3 : (fbT q m).1 = 0
        · rw [if_pos h3, if_pos rfl, if_pos h3]
        · rw [if_neg h3, if_neg h3, if_neg h3]
          refine Prod.ext rfl ?_
          dsimp only
          rw [List.length_cons]
          omega
      · rw [if_neg h2, if_neg h2, if_neg h2]
    · rw [if_neg h, if_neg h, if_neg h]

theorem deep_max (l : List (Nat × Tr)) : deepB l = decide (24 < maxD l) := by
  induction l with
  | nil => rfl
  | cons x xs ih =>
    rw [maxD_cons]
    unfold deepB at ih ⊢
    rw [List.any_cons, ih, ← Bool.decide_or]
    exact decide_eq_decide.2 (by omega)

theorem wfold_fb (q : Int → List Nat → Bool) (l : List (Nat × Tr)) : ((wfold q l).1, (wfold q l).2.1) = if 4000 < l.length then (6, 0) else fbT q (l.map (·.2)) := by
  obtain ⟨r, rfl⟩ : ∃ r : List (Nat × Tr), r.reverse = l := ⟨l.reverse, List.reverse_reverse l⟩
  induction r with
  | nil => rfl
  | cons x r ih =>
    rw [List.reverse_cons]
    generalize r.reverse = l at ih ⊢
    have hc := wfold_count q l
    have hb := broken_range q x.2
    rw [wfold_snoc, List.map_append, fbT_append]
    unfold wstep
    rw [hc]
    have e1 : (wfold q l).1 = (if 4000 < l.length then (6, 0) else fbT q (l.map (·.2))).1 := by rw [← ih]
    have e2 : (wfold q l).2.1 = (if 4000 < l.length then (6, 0) else fbT q (l.map (·.2))).2 := by rw [← ih]
    rw [List.length_append, List.length_singleton]
    by_cases h0 : l.length = 4000
    · rw [if_pos h0, if_pos (by omega)]
    · rw [if_neg h0]
      by_cases h1 : 4000 < l.length
      · rw [if_pos h1] at e1 e2
        rw [if_pos (show 4000 < l.length + 1 by omega), e1, e2, if_neg (by decide)]
      · rw [if_neg h1] at e1 e2
        rw [if_neg (show ¬ 4000 < l.length + 1 by omega), e1, e2]
        have hr := fbT_range q (l.map (·.2))
        have ef : fbT q (List.map (·.2) [x]) = if brokenN q x.2 = 0 then (0, -1) else (brokenN q x.2, 0) := by
          show fbT q [x.2] = _
          simp [fbT]
        rw [ef, List.length_map]
        by_cases h2 : (fbT q (l.map (·.2))).1 = 0
        · rw [if_pos h2, if_pos h2]
          by_cases h3 : brokenN q x.2 = 0
          · rw [if_pos h3, if_pos h3, if_pos rfl]
            refine Prod.ext rfl ?_
            dsimp only
            rcases hr with ⟨-, h⟩ | ⟨h, -⟩
            · exact h
            · omega
          · rw [if_neg h3, if_neg h3, if_neg h3]
            refine Prod.ext rfl ?_
            dsimp only
            omega
        · rw [if_neg h2, if_neg h2]

mutual
theorem Tr.nodes_snd (d e : Nat) : ∀ t : Tr, (t.nodes d).map (·.2) = (t.nodes e).map (·.2)
  | .mk c t k l ks => by
    simp only [Tr.nodes, List.map_cons]
    rw [nodesL_snd (d + 1) (e + 1) ks]
theorem nodesL_snd (d e : Nat) : ∀ l : List Tr, (nodesL d l).map (·.2) = (nodesL e l).map (·.2)
  | [] => rfl
  | t :: ts => by
    simp only [nodesL, List.map_append]
    rw [Tr.nodes_snd d e t, nodesL_snd d e ts]
end

/-- What Wrong answers, by the tree's depth, its nodes, and the first that breaks a rule by itself. -/
theorem wrongR_eq (q : Int → List Nat → Bool) (T : Tr) : wrongR q T = if 24 < T.dep then (5, 0) else if 4000 < T.cnt then (6, 0) else fbT q ((T.nodes 1).map (·.2)) := by
  unfold wrongR
  rw [deep_max, show maxD (T.nodes 1) = T.dep by have := T.maxD_nodes 0; simpa using this]
  by_cases h : 24 < T.dep
  · simp [h]
  · rw [if_neg h, if_neg (by simp [h]), wfold_fb, T.nodes_length 1]

theorem wrongR_range (q : Int → List Nat → Bool) (T : Tr) : 0 ≤ (wrongR q T).1 ∧ (wrongR q T).1 ≤ 6 ∧ -1 ≤ (wrongR q T).2 ∧ (wrongR q T).2 < (T.cnt : Int) ∧ ((wrongR q T).1 = 0 ↔ (wrongR q T).2 = -1) := by
  have hp := T.cnt_pos
  have hl : ((T.nodes 1).map (·.2)).length = T.cnt := by rw [List.length_map, T.nodes_length 1]
  rw [wrongR_eq]
  split
  · dsimp only; omega
  · split
    · dsimp only; omega
    · have hr := fbT_range q ((T.nodes 1).map (·.2))
      rw [hl] at hr
      omega

/-- What the law's loop finds: the place of the first kid's node that breaks a rule by itself; s: how many nodes stand ahead of the kids. -/
def firstK (q : Int → List Nat → Bool) : Int → List Tr → Int
  | _, [] => -1
  | s, t :: ts => if 0 < (wrongR q t).1 ∧ (wrongR q t).1 < 5 then s + (wrongR q t).2 else firstK q (s + (t.cnt : Int)) ts

theorem firstK_eq (q : Int → List Nat → Bool) (ks : List Tr) (hd : ∀ t ∈ ks, t.dep ≤ 24) (hc : ∀ t ∈ ks, t.cnt ≤ 4000) (s : Int) :
    firstK q s ks = if (fbT q ((nodesL 1 ks).map (·.2))).1 = 0 then -1 else s + (fbT q ((nodesL 1 ks).map (·.2))).2 := by
  induction ks generalizing s with
  | nil => rfl
  | cons t ts ih =>
    have hr := fbT_range q ((t.nodes 1).map (·.2))
    have hw : wrongR q t = fbT q ((t.nodes 1).map (·.2)) := by
      rw [wrongR_eq, if_neg (by have := hd t (by simp); omega), if_neg (by have := hc t (by simp); omega)]
    have hl : ((t.nodes 1).map (·.2)).length = t.cnt := by rw [List.length_map, t.nodes_length 1]
    rw [firstK, nodesL, List.map_append, fbT_append, hw, ih (fun x h => hd x (by simp [h])) (fun x h => hc x (by simp [h])), hl]
    by_cases h : (fbT q ((t.nodes 1).map (·.2))).1 = 0
    · rw [if_neg (by omega), if_pos h]
      by_cases h2 : (fbT q ((nodesL 1 ts).map (·.2))).1 = 0
      · rw [if_pos h2, if_pos h2, if_pos rfl]
      · rw [if_neg h2, if_neg h2, if_neg h2]
        dsimp only
        omega
    · rw [if_pos (by omega), if_neg h, if_neg h]

theorem Tr.dep_kids (T : Tr) : ∀ t ∈ T.kids, t.dep + 1 ≤ T.dep := fun t ht => by
  obtain ⟨c, g, k, l, ks⟩ := T
  have := depL_mem (show t ∈ ks from ht)
  show t.dep + 1 ≤ depL ks + 1
  omega
theorem Tr.cnt_kids (T : Tr) : ∀ t ∈ T.kids, t.cnt + 1 ≤ T.cnt := fun t ht => by
  obtain ⟨c, g, k, l, ks⟩ := T
  have := cntL_mem (show t ∈ ks from ht)
  show t.cnt + 1 ≤ cntL ks + 1
  omega

theorem Tr.fb_nodes (q : Int → List Nat → Bool) (T : Tr) : fbT q ((T.nodes 1).map (·.2)) = if brokenN q T = 0 then (if (fbT q ((nodesL 1 T.kids).map (·.2))).1 = 0 then (0, -1) else ((fbT q ((nodesL 1 T.kids).map (·.2))).1, (fbT q ((nodesL 1 T.kids).map (·.2))).2 + 1)) else (brokenN q T, 0) := by
  obtain ⟨c, g, k, l, ks⟩ := T
  rw [Tr.nodes, List.map_cons, fbT, nodesL_snd (1 + 1) 1 ks]
  rfl

theorem fbT_mem (q : Int → List Nat → Bool) (ks : List Tr) (h : (fbT q ((nodesL 1 ks).map (·.2))).1 = 0) : ∀ t ∈ ks, (fbT q ((t.nodes 1).map (·.2))).1 = 0 := by
  induction ks with
  | nil => intro t ht; cases ht
  | cons x xs ih =>
    rw [nodesL, List.map_append, fbT_append] at h
    intro t ht
    by_cases h1 : (fbT q ((x.nodes 1).map (·.2))).1 = 0
    · rw [if_pos h1] at h
      rcases List.mem_cons.1 ht with rfl | ht
      · exact h1
      · refine ih ?_ t ht
        by_cases h2 : (fbT q ((nodesL 1 xs).map (·.2))).1 = 0
        · exact h2
        · rw [if_neg h2] at h; exact absurd h h2
    · rw [if_neg h1] at h
      exact absurd h h1

/-- A tree that may be: so are its kids. -/
theorem parts_fine (q : Int → List Nat → Bool) (T : Tr) (h : (wrongR q T).1 = 0) : (wrongR q T).2 = -1 ∧ (∀ t ∈ T.kids, (wrongR q t).1 = 0) ∧ firstK q 1 T.kids = -1 := by
  refine ⟨(wrongR_range q T).2.2.2.2.1 h, ?_⟩
  rw [wrongR_eq] at h
  by_cases h1 : 24 < T.dep
  · rw [if_pos h1] at h; cases h
  · rw [if_neg h1] at h
    by_cases h2 : 4000 < T.cnt
    · rw [if_pos h2] at h; cases h
    · rw [if_neg h2, T.fb_nodes] at h
      by_cases h3 : brokenN q T = 0
      · rw [if_pos h3] at h
        have h4 : (fbT q ((nodesL 1 T.kids).map (·.2))).1 = 0 := by
          by_cases h4 : (fbT q ((nodesL 1 T.kids).map (·.2))).1 = 0
          · exact h4
          · rw [if_neg h4] at h; exact h
        refine ⟨fun t ht => ?_, ?_⟩
        · rw [wrongR_eq, if_neg (by have := T.dep_kids t ht; omega), if_neg (by have := T.cnt_kids t ht; omega)]
          exact fbT_mem q _ h4 t ht
        · rw [firstK_eq q _ (fun t ht => by have := T.dep_kids t ht; omega) (fun t ht => by have := T.cnt_kids t ht; omega), if_pos h4]
      · rw [if_neg h3] at h; exact absurd h h3

/-- One that may not be. -/
theorem parts_wrong (q : Int → List Nat → Bool) (T : Tr) (h : (wrongR q T).1 ≠ 0) : (wrongR q T).2 = 0 ∨ (wrongR q T).2 = firstK q 1 T.kids := by
  rw [wrongR_eq] at h ⊢
  by_cases h1 : 24 < T.dep
  · rw [if_pos h1]; exact .inl rfl
  · rw [if_neg h1] at h ⊢
    by_cases h2 : 4000 < T.cnt
    · rw [if_pos h2]; exact .inl rfl
    · rw [if_neg h2, T.fb_nodes] at h ⊢
      by_cases h3 : brokenN q T = 0
      · rw [if_pos h3] at h ⊢
        by_cases h4 : (fbT q ((nodesL 1 T.kids).map (·.2))).1 = 0
        · rw [if_pos h4] at h; exact absurd rfl h
        · rw [if_neg h4]
          refine .inr ?_
          rw [firstK_eq q _ (fun t ht => by have := T.dep_kids t ht; omega) (fun t ht => by have := T.cnt_kids t ht; omega), if_neg h4]
          dsimp only
          omega
      · rw [if_neg h3]; exact .inl rfl

end Go.Proofs.YtkmphiakciihfaaDoor
