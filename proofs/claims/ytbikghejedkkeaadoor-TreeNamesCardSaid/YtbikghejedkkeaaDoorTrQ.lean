/-
  THE LAWS' alive, is, wrong, fits: what is known of all trees serves for the chapter's first examples.
-/
import Derived.Test.YtbikghejedkkeaaDoorTrP
import Derived.Test.YtbikghejedkkeaaDoorTrI
import Derived.Test.YtbikghejedkkeaaDoorByt
import Derived.Lib.ConvBytes
namespace Go.Proofs.YtbikghejedkkeaaDoor
open Go.RowKit

theorem convT {w : World} {a : Option Addr} {len cap : Nat} {l : List Nat} (h : Reads .u8 w a len cap l) (hx : Byt l) :
    (convert 22 9 (.slice a len cap)).run Tryd.prog w = .ok (.string ⟨(u8s l).toArray⟩) w :=
  (h.bts hx).convert (P := Tryd.prog) _ _ _ Tryd.underlying22 Tryd.underlying5 Tryd.underlying9

theorem u8T_ne {l m : List Nat} (h : Byt l) (k : Byt m) (e : l ≠ m) : (u8s l == u8s m) = false := beq_eq_false_iff_ne.2 fun h9 => e (u8s_inj h k h9)

theorem equalT_any (a a' : Option Addr) (n c n' c' : Nat) (l m : List Nat) (w : World) (hl : Reads .u8 w a n c l) (hm : Reads .u8 w a' n' c' m) (bl : Byt l) (bm : Byt m) :
    Calls Tryd.prog 39 #[.slice a n c, .slice a' n' c'] w fun e w' => e = .returned (.bool (decide (l = m))) ∧ w' = w := by
  have c1 := convT hl bl
  have c2 := convT hm bm
  by_cases h : l = m
  · subst h
    go_enter Tryd.func39, Tryd.ntmps39
    go_wp2
    go_ret
    exact ⟨by first | rfl | (simp; rfl), rfl⟩
  · have hne := u8T_ne bl bm h
    have hd := Lib.hid (show decide (l = m) = false from decide_eq_false h)
    clear h
    go_enter Tryd.func39, Tryd.ntmps39
    go_wp2
    go_ret
    exact ⟨by rw [hd.out]; rfl, rfl⟩

/-- A test of the laws: it holds. -/
theorem isT_yes (L : World → Prop) (hL : ∀ W W', L W → Below W.heap.size W W' → L W') (q : Int → List Nat → Bool) (V : NV) (T : Tr) (w : World) (hn : NodeAt w V T) (hN : T.cnt ≤ 1000000) (hd : T.dep ≤ 1000000) (hl : L w) (hq : ∀ p ∈ T.nodes 1, WantedOk L q p.2.tag)
    (r a : Int) (h : wrongR q T = (r, a)) (hr : ¬ r = 0) :
    Calls Tryd.prog 20 #[V.agg, .int .i64 r, .int .i64 a] w fun e w' => e = .returned (.bool true) ∧ Below w.heap.size w w' := by
  have hb0 : Below w.heap.size w (w.alloc (.cells #[.int .i64 V.cls, .int .i64 V.tag, .bool V.cons, .slice V.ba V.bl V.bc, .slice V.ka V.kl V.kc] 25)) := (Below.refl _ _).alloc (Nat.le_refl _) _
  have HW := Lib.hid (wrong_any L hL q V T _ (hn.under hb0) hN hd (hL _ _ hl hb0) hq)
  have HC := Lib.hid (fun (W : World) (hB : Below w.heap.size w W) => check_any L hL q V T W (hn.under hB) hN hd (hL _ _ hl hB) hq)
  have hcs : CellsAt (w.alloc (.cells #[.int .i64 V.cls, .int .i64 V.tag, .bool V.cons, .slice V.ba V.bl V.bc, .slice V.ka V.kl V.kc] 25)) w.heap.size 0 V := by constructor <;> simp
  have HCS := Lib.hid hcs
  have HB0 := Lib.hid hb0
  rw [h] at HW
  simp only [h, if_neg hr] at HC
  have hr2 : (r == 0) = false := by simpa using hr
  obtain ⟨c, t, kk, ba, bl, bc, ka, kl, kc⟩ := V
  unfold NV.agg at HW HC ⊢
  dsimp only at HW HC ⊢
  clear hn hb0 hL hl hq hcs h hr
  go_enter Tryd.func20, Tryd.ntmps20
  go_wp2_with fail
  refine HW.out.mono ?_
  rintro e w2 ⟨rfl, hb⟩
  have HB := Lib.hid hb
  obtain ⟨p0, p1, p2, p3, p4⟩ := HCS.out.below hb (by simp)
  dsimp only at p0 p1 p2 p3 p4
  simp only [Nat.zero_add] at p0 p1 p2 p3 p4
  clear hb
  go_wp2_with fail
  refine (HC.out w2 (HB0.out.trans (HB.out.mono (by simp)))).mono ?_
  rintro e w3 ⟨rfl, hb3⟩
  have HB3 := Lib.hid (HB0.out.trans ((HB.out.mono (by simp)).trans (hb3.mono (by have := HB.out.size; simp at this; omega))))
  clear hb3
  go_wp2_with fail
  go_ret
  exact ⟨rfl, HB3.out⟩

theorem reads8_lit (w : World) (E : TypeId) (l : List Nat) (cs : Array Value) (h : cs.toList = l.map (num .u8)) (hl : l.length ≤ maxLen) : Reads .u8 (w.alloc (.cells cs E)) (some ⟨w.heap.size, 0, none⟩) l.length l.length l := by
  refine ⟨rfl, Nat.le_refl _, hl, (fun h => by cases h), fun _ => ⟨w.heap.size, 0, rfl, by simp, fun i hi => ?_⟩⟩
  rw [Nat.zero_add, World.cell?_alloc_at _ _ _ _ rfl]
  have : cs.toList[i]? = (l.map (num .u8))[i]? := by rw [h]
  rw [List.getElem?_map, List.getElem?_eq_getElem hi] at this
  rw [← Array.getElem?_toList, this, List.getElem?_eq_getElem hi]
  rfl

theorem noL : ∀ W W' : World, True → Below W.heap.size W W' → True := fun _ _ h _ => h

/-- The tags of the examples. -/
def qA : Int → List Nat → Bool := fun t => if t = 1 then boolB else if t = 5 then fun l => decide (l.length = 0) else intB
theorem wantedA (t : Int) (h : t = 1 ∨ t = 2 ∨ t = 5 ∨ t = 16) : WantedOk (fun _ => True) qA t := by
  rcases h with rfl | rfl | rfl | rfl
  · exact fun w _ => (wanted_bool w).mono fun e w' ⟨he, hb⟩ => .inr ⟨rfl, _, he, asks_bool w', hb⟩
  · exact fun w _ => (wanted_int 2 (.inl rfl) w).mono fun e w' ⟨he, hb⟩ => .inr ⟨rfl, _, he, asks_int w', hb⟩
  · exact fun w _ => (wanted_null w).mono fun e w' ⟨he, hb⟩ => .inr ⟨rfl, _, he, asks_null w', hb⟩
  · exact wanted_none _ _ 16 rfl

theorem u8T_size (l : List Nat) : (⟨(u8s l).toArray⟩ : ByteArray).size = l.length := by show (u8s l).toArray.size = _; simp [u8s]
theorem bytesT_below (w : World) (e : TypeId) (s : ByteArray) : Below w.heap.size w (Lib.bytesWorld w e s) :=
  ⟨rfl, rfl, rfl, by rw [Lib.bytesWorld_size]; omega, fun j hj => Lib.bytesWorld_at_old w e s j hj⟩
theorem bytesT_reads (w : World) (e : TypeId) (l : List Nat) (hl : Byt l) (hm : l.length ≤ 1000000) : Reads .u8 (Lib.bytesWorld w e ⟨(u8s l).toArray⟩) (some ⟨w.heap.size, 0, none⟩) l.length (grownCap w l.length 0 e) l := by
  refine ⟨rfl, grownCap_ge w l.length 0 e, grownCap_le_maxLen w l.length 0 e (by unfold maxLen; omega), (fun h => by cases h), fun _ => ⟨w.heap.size, 0, rfl, by rw [Lib.bytesWorld_size]; omega, fun i hi => ?_⟩⟩
  rw [Nat.zero_add, Lib.bytesWorld_cell w e _ i (by rw [u8T_size]; exact hi)]
  have := u8s_get l hl i
  rw [← this]
  simp [List.getD]

set_option maxHeartbeats 1000000 in
/-- The law's test that a tag may not have these bytes. -/
theorem wrong_yes (L : World → Prop) (hL : ∀ W W', L W → Below W.heap.size W W' → L W') (q : Int → List Nat → Bool) (t : Int) (l : List Nat) (hl : Byt l) (hm : l.length ≤ 100000) (w : World) (hw : L w) (hq : WantedOk L q t) (hr : wrongR q (.mk 0 t false l []) = (4, 0)) :
    Calls Tryd.prog 24 #[.int .i64 t, .string ⟨(u8s l).toArray⟩] w fun e w' => e = .returned (.bool true) ∧ Below w.heap.size w w' := by
  have hcv := Lib.run_convert_string_bytes (P := Tryd.prog) w 9 22 5 ⟨(u8s l).toArray⟩ (u := .string) Tryd.underlying9 Tryd.underlying22 Tryd.underlying5
  rw [u8T_size] at hcv
  have HR := Lib.hid (bytesT_reads w 5 l hl (by omega))
  have HB := Lib.hid (bytesT_below w 5 ⟨(u8s l).toArray⟩)
  have HQ := Lib.hid (And.intro hL (And.intro hw (And.intro hq hr)))
  clear hL hw hq hr
  go_enter Tryd.func24, Tryd.ntmps24
  go_wp2_with fail
  generalize Lib.bytesWorld w 5 ⟨(u8s l).toArray⟩ = w1 at *
  clear hcv
  refine (prim_any 0 t _ _ _ l w1 HR.out hl (by omega)).mono ?_
  rintro e w2 ⟨⟨V, rfl, hm2⟩, hb2⟩
  have HM := Lib.hid hm2.node
  have HB2 := Lib.hid (HB.out.trans (hb2.mono HB.out.size))
  obtain ⟨c, t', kk, ba, bl, bc, ka, kl, kc⟩ := V
  unfold NV.agg
  dsimp only
  clear hm2 hb2
  go_wp2_with fail
  refine (isT_yes L HQ.out.1 q ⟨c, t', kk, ba, bl, bc, ka, kl, kc⟩ _ w2 HM.out (by simp [Tr.cnt, cntL]) (by simp [Tr.dep, depL]) (HQ.out.1 _ _ HQ.out.2.1 HB2.out) (fun p hp => ?_) 4 0 HQ.out.2.2.2 (by decide)).mono ?_
  · simp only [Tr.nodes, nodesL, List.mem_singleton] at hp
    subst hp
    exact HQ.out.2.2.1
  rintro e w3 ⟨rfl, hb3⟩
  have HB3 := Lib.hid (HB2.out.trans (hb3.mono HB2.out.size))
  clear hb3
  go_wp2_with fail
  go_ret
  exact ⟨rfl, HB3.out⟩

/-- The tree of the second example. -/
abbrev exT : Tr := .mk 0 16 true [] [.mk 0 2 false [5] [], .mk 0 5 false [0] []]

theorem nodes2 (w : World) (V1 V2 : NV) (T1 T2 : Tr) (h1 : NodeAt w V1 T1) (h2 : NodeAt w V2 T2) (E : TypeId) :
    NodesAt (w.alloc (.cells #[.int .i64 V1.cls, .int .i64 V1.tag, .bool V1.cons, .slice V1.ba V1.bl V1.bc, .slice V1.ka V1.kl V1.kc, .int .i64 V2.cls, .int .i64 V2.tag, .bool V2.cons, .slice V2.ba V2.bl V2.bc, .slice V2.ka V2.kl V2.kc] E)) (some ⟨w.heap.size, 0, none⟩) 2 2 [T1, T2] := by
  have hb : Below w.heap.size w (w.alloc (.cells #[.int .i64 V1.cls, .int .i64 V1.tag, .bool V1.cons, .slice V1.ba V1.bl V1.bc, .slice V1.ka V1.kl V1.kc, .int .i64 V2.cls, .int .i64 V2.tag, .bool V2.cons, .slice V2.ba V2.bl V2.bc, .slice V2.ka V2.kl V2.kc] E)) := (Below.refl _ _).alloc (Nat.le_refl _) _
  refine ⟨rfl, Nat.le_refl _, by unfold maxLen; omega, (fun h => by cases h), fun i => if i = 0 then V1 else V2, fun _ => ⟨w.heap.size, 0, rfl, by simp, fun i hi => ?_⟩, fun i hi => ?_⟩
  · rcases (show i = 0 ∨ i = 1 by omega) with rfl | rfl
    · constructor <;> simp
    · constructor <;> simp
  · rcases (show i = 0 ∨ i = 1 by simp at hi; omega) with rfl | rfl
    · exact h1.under hb
    · exact h2.under hb

set_option maxRecDepth 100000 in
set_option maxHeartbeats 4000000 in
theorem alive_t (w : World) : Calls Tryd.prog 27 #[] w fun e w' => e = .returned (.bool true) ∧ Below w.heap.size w w' := by
  obtain ⟨u1, hu1⟩ : ∃ u, w.alloc (.cells #[.int .u8 0] 5) = u := ⟨_, rfl⟩
  obtain ⟨u2, hu2⟩ : ∃ u, u1.alloc (.cells #[.int .u8 127] 5) = u := ⟨_, rfl⟩
  obtain ⟨u3, hu3⟩ : ∃ u, u2.alloc (.cells #[.int .u8 0, .int .u8 128] 5) = u := ⟨_, rfl⟩
  obtain ⟨u4, hu4⟩ : ∃ u, u3.alloc (.cells #[.int .u8 128] 5) = u := ⟨_, rfl⟩
  obtain ⟨u5, hu5⟩ : ∃ u, u4.alloc (.cells #[.int .u8 255, .int .u8 127] 5) = u := ⟨_, rfl⟩
  obtain ⟨u6, hu6⟩ : ∃ u, u5.alloc (.cells #[.slice (some ⟨w.heap.size, 0, none⟩) 1 1, .slice (some ⟨u1.heap.size, 0, none⟩) 1 1, .slice (some ⟨u2.heap.size, 0, none⟩) 2 2, .slice (some ⟨u3.heap.size, 0, none⟩) 1 1, .slice (some ⟨u4.heap.size, 0, none⟩) 2 2] 22) = u := ⟨_, rfl⟩
  obtain ⟨u7, hu7⟩ : ∃ u, u6.alloc (.cells #[.int .i64 0, .int .i64 127, .int .i64 128, .int .i64 (-128), .int .i64 (-129)] 2) = u := ⟨_, rfl⟩
  have hb1 : Below w.heap.size w u1 := by rw [← hu1]; exact (Below.refl _ _).alloc (Nat.le_refl _) _
  have hb2 : Below u1.heap.size u1 u2 := by rw [← hu2]; exact (Below.refl _ _).alloc (Nat.le_refl _) _
  have hb3 : Below u2.heap.size u2 u3 := by rw [← hu3]; exact (Below.refl _ _).alloc (Nat.le_refl _) _
  have hb4 : Below u3.heap.size u3 u4 := by rw [← hu4]; exact (Below.refl _ _).alloc (Nat.le_refl _) _
  have hb5 : Below u4.heap.size u4 u5 := by rw [← hu5]; exact (Below.refl _ _).alloc (Nat.le_refl _) _
  have hb6 : Below u5.heap.size u5 u6 := by rw [← hu6]; exact (Below.refl _ _).alloc (Nat.le_refl _) _
  have hb7 : Below u6.heap.size u6 u7 := by rw [← hu7]; exact (Below.refl _ _).alloc (Nat.le_refl _) _
  have g7 := Below.refl u7.heap.size u7
  have g6 : Below u6.heap.size u6 u7 := hb7.trans (g7.mono hb7.size)
  have g5 : Below u5.heap.size u5 u7 := hb6.trans (g6.mono hb6.size)
  have g4 : Below u4.heap.size u4 u7 := hb5.trans (g5.mono hb5.size)
  have g3 : Below u3.heap.size u3 u7 := hb4.trans (g4.mono hb4.size)
  have g2 : Below u2.heap.size u2 u7 := hb3.trans (g3.mono hb3.size)
  have g1 : Below u1.heap.size u1 u7 := hb2.trans (g2.mono hb2.size)
  have g0 : Below w.heap.size w u7 := hb1.trans (g1.mono hb1.size)
  have HR0 := Lib.hid ((show Reads .u8 u1 (some ⟨w.heap.size, 0, none⟩) 1 1 [0] by rw [← hu1]; exact reads8_lit w _ [0] _ rfl (by unfold maxLen; simp)).below g1)
  have HR1 := Lib.hid ((show Reads .u8 u2 (some ⟨u1.heap.size, 0, none⟩) 1 1 [127] by rw [← hu2]; exact reads8_lit u1 _ [127] _ rfl (by unfold maxLen; simp)).below g2)
  have HR2 := Lib.hid ((show Reads .u8 u3 (some ⟨u2.heap.size, 0, none⟩) 2 2 [0, 128] by rw [← hu3]; exact reads8_lit u2 _ [0, 128] _ rfl (by unfold maxLen; simp)).below g3)
  have HR3 := Lib.hid ((show Reads .u8 u4 (some ⟨u3.heap.size, 0, none⟩) 1 1 [128] by rw [← hu4]; exact reads8_lit u3 _ [128] _ rfl (by unfold maxLen; simp)).below g4)
  have HR4 := Lib.hid ((show Reads .u8 u5 (some ⟨u4.heap.size, 0, none⟩) 2 2 [255, 127] by rw [← hu5]; exact reads8_lit u4 _ [255, 127] _ rfl (by unfold maxLen; simp)).below g5)
  have HS0 := Lib.hid ((g6.cell (p := ⟨u5.heap.size, 0, none⟩) (by have := hb6.size; rw [← hu6]; simp)).trans (show u6.cell? ⟨u5.heap.size, 0, none⟩ = some (.slice (some ⟨w.heap.size, 0, none⟩) 1 1) by rw [← hu6]; simp))
  have HN0 := Lib.hid (show u7.cell? ⟨u6.heap.size, 0, none⟩ = some (.int .i64 0) by rw [← hu7]; simp)
  have HS1 := Lib.hid ((g6.cell (p := ⟨u5.heap.size, 1, none⟩) (by have := hb6.size; rw [← hu6]; simp)).trans (show u6.cell? ⟨u5.heap.size, 1, none⟩ = some (.slice (some ⟨u1.heap.size, 0, none⟩) 1 1) by rw [← hu6]; simp))
  have HN1 := Lib.hid (show u7.cell? ⟨u6.heap.size, 1, none⟩ = some (.int .i64 127) by rw [← hu7]; simp)
  have HS2 := Lib.hid ((g6.cell (p := ⟨u5.heap.size, 2, none⟩) (by have := hb6.size; rw [← hu6]; simp)).trans (show u6.cell? ⟨u5.heap.size, 2, none⟩ = some (.slice (some ⟨u2.heap.size, 0, none⟩) 2 2) by rw [← hu6]; simp))
  have HN2 := Lib.hid (show u7.cell? ⟨u6.heap.size, 2, none⟩ = some (.int .i64 128) by rw [← hu7]; simp)
  have HS3 := Lib.hid ((g6.cell (p := ⟨u5.heap.size, 3, none⟩) (by have := hb6.size; rw [← hu6]; simp)).trans (show u6.cell? ⟨u5.heap.size, 3, none⟩ = some (.slice (some ⟨u3.heap.size, 0, none⟩) 1 1) by rw [← hu6]; simp))
  have HN3 := Lib.hid (show u7.cell? ⟨u6.heap.size, 3, none⟩ = some (.int .i64 (-128)) by rw [← hu7]; simp)
  have HS4 := Lib.hid ((g6.cell (p := ⟨u5.heap.size, 4, none⟩) (by have := hb6.size; rw [← hu6]; simp)).trans (show u6.cell? ⟨u5.heap.size, 4, none⟩ = some (.slice (some ⟨u4.heap.size, 0, none⟩) 2 2) by rw [← hu6]; simp))
  have HN4 := Lib.hid (show u7.cell? ⟨u6.heap.size, 4, none⟩ = some (.int .i64 (-129)) by rw [← hu7]; simp)
  have HZ5 := Lib.hid (show u5.heap.size < u7.heap.size by rw [← hu7, ← hu6]; simp only [World.size_alloc]; omega)
  have HZ6 := Lib.hid (show u6.heap.size < u7.heap.size by rw [← hu7]; simp)
  have G0 := Lib.hid g0
  clear hb1 hb2 hb3 hb4 hb5 hb6 hb7 g0 g1 g2 g3 g4 g5 g6 g7
  go_enter Tryd.func27, Tryd.ntmps27
  go_wp2_with fail
  clear hu1 hu2 hu3 hu4 hu5 hu6 hu7
  go_loopw [13] (fun i wr => ∃ j : Nat, j ≤ 5 ∧ i = .int .i64 (j : Int) ∧ Below u7.heap.size u7 wr) (fun i _ => 5 - (intOf i).toNat)
  case atStart => exact ⟨0, by omega, rfl, Below.refl _ _⟩
  case round =>
    obtain ⟨j, hj, rfl, hb⟩ := hrel
    have HB := Lib.hid hb
    clear hb
    rcases (show j = 0 ∨ j = 1 ∨ j = 2 ∨ j = 3 ∨ j = 4 ∨ j = 5 by omega) with rfl | rfl | rfl | rfl | rfl | rfl
    · have cn := (HB.out.cell (p := ⟨u6.heap.size, 0, none⟩) HZ6.out).trans HN0.out
      go_wp2_with fail
      refine (int_any (0) wr (by decide) (by decide)).mono ?_
      rintro e w2 ⟨⟨V2, rfl, hm2⟩, hb2⟩
      have e0 : (0 : Int) = V2.cls := hm2.node.cls
      have e1 : (2 : Int) = V2.tag := hm2.node.tag
      have hby := hm2.node.bytes
      have hil : intL (0) = [0] := by decide
      simp only [Tr.b, hil] at hby
      obtain ⟨vc, vt, kk, ba, bl, bc, ka, kl, kc⟩ := V2
      dsimp only at e0 e1 hby
      subst e0 e1
      obtain ⟨w3, hw3⟩ : ∃ w3, w2.alloc (.cells #[.int .i64 0, .int .i64 2, .bool kk, .slice ba bl bc, .slice ka kl kc] 25) = w3 := ⟨_, rfl⟩
      have hb3 : Below w2.heap.size w2 w3 := by rw [← hw3]; exact (Below.refl _ _).alloc (Nat.le_refl _) _
      have hb03 := HB.out.trans ((hb2.trans (hb3.mono hb2.size)).mono HB.out.size)
      have HB3 := Lib.hid hb03
      have p1 : w3.cell? ⟨w2.heap.size, 1, none⟩ = some (.int .i64 2) := by rw [← hw3]; simp
      have p3 : w3.cell? ⟨w2.heap.size, 3, none⟩ = some (.slice ba bl bc) := by rw [← hw3]; simp
      have cs := (hb03.cell (p := ⟨u5.heap.size, 0, none⟩) HZ5.out).trans HS0.out
      have hcv1 := fun N : Nat => convT ((hby.below hb3).drewN N) (by decide)
      have hcv2 := fun N : Nat => convT ((HR0.out.below hb03).drewN N) (by decide)
      obtain ⟨S, hS⟩ : ∃ S : ByteArray, (⟨(u8s [0]).toArray⟩ : ByteArray) = S := ⟨_, rfl⟩
      rw [hS] at hcv1 hcv2
      clear hm2 hb2 hb3 hb03 hby hil hS cn
      unfold NV.agg
      dsimp only
      go_wp2_with fail
      clear hw3
      go_big_quiet (fail)
      go_wp2_with fail
      go_roundw
      case rel => exact ⟨1, by omega, rfl, below_drewN HB3.out nq⟩
      case measure => simp [intOf]
    · have cn := (HB.out.cell (p := ⟨u6.heap.size, 1, none⟩) HZ6.out).trans HN1.out
      go_wp2_with fail
      refine (int_any (127) wr (by decide) (by decide)).mono ?_
      rintro e w2 ⟨⟨V2, rfl, hm2⟩, hb2⟩
      have e0 : (0 : Int) = V2.cls := hm2.node.cls
      have e1 : (2 : Int) = V2.tag := hm2.node.tag
      have hby := hm2.node.bytes
      have hil : intL (127) = [127] := by decide
      simp only [Tr.b, hil] at hby
      obtain ⟨vc, vt, kk, ba, bl, bc, ka, kl, kc⟩ := V2
      dsimp only at e0 e1 hby
      subst e0 e1
      obtain ⟨w3, hw3⟩ : ∃ w3, w2.alloc (.cells #[.int .i64 0, .int .i64 2, .bool kk, .slice ba bl bc, .slice ka kl kc] 25) = w3 := ⟨_, rfl⟩
      have hb3 : Below w2.heap.size w2 w3 := by rw [← hw3]; exact (Below.refl _ _).alloc (Nat.le_refl _) _
      have hb03 := HB.out.trans ((hb2.trans (hb3.mono hb2.size)).mono HB.out.size)
      have HB3 := Lib.hid hb03
      have p1 : w3.cell? ⟨w2.heap.size, 1, none⟩ = some (.int .i64 2) := by rw [← hw3]; simp
      have p3 : w3.cell? ⟨w2.heap.size, 3, none⟩ = some (.slice ba bl bc) := by rw [← hw3]; simp
      have cs := (hb03.cell (p := ⟨u5.heap.size, 1, none⟩) HZ5.out).trans HS1.out
      have hcv1 := fun N : Nat => convT ((hby.below hb3).drewN N) (by decide)
      have hcv2 := fun N : Nat => convT ((HR1.out.below hb03).drewN N) (by decide)
      obtain ⟨S, hS⟩ : ∃ S : ByteArray, (⟨(u8s [127]).toArray⟩ : ByteArray) = S := ⟨_, rfl⟩
      rw [hS] at hcv1 hcv2
      clear hm2 hb2 hb3 hb03 hby hil hS cn
      unfold NV.agg
      dsimp only
      go_wp2_with fail
      clear hw3
      go_big_quiet (fail)
      go_wp2_with fail
      go_roundw
      case rel => exact ⟨2, by omega, rfl, below_drewN HB3.out nq⟩
      case measure => simp [intOf]
    · have cn := (HB.out.cell (p := ⟨u6.heap.size, 2, none⟩) HZ6.out).trans HN2.out
      go_wp2_with fail
      refine (int_any (128) wr (by decide) (by decide)).mono ?_
      rintro e w2 ⟨⟨V2, rfl, hm2⟩, hb2⟩
      have e0 : (0 : Int) = V2.cls := hm2.node.cls
      have e1 : (2 : Int) = V2.tag := hm2.node.tag
      have hby := hm2.node.bytes
      have hil : intL (128) = [0, 128] := by decide
      simp only [Tr.b, hil] at hby
      obtain ⟨vc, vt, kk, ba, bl, bc, ka, kl, kc⟩ := V2
      dsimp only at e0 e1 hby
      subst e0 e1
      obtain ⟨w3, hw3⟩ : ∃ w3, w2.alloc (.cells #[.int .i64 0, .int .i64 2, .bool kk, .slice ba bl bc, .slice ka kl kc] 25) = w3 := ⟨_, rfl⟩
      have hb3 : Below w2.heap.size w2 w3 := by rw [← hw3]; exact (Below.refl _ _).alloc (Nat.le_refl _) _
      have hb03 := HB.out.trans ((hb2.trans (hb3.mono hb2.size)).mono HB.out.size)
      have HB3 := Lib.hid hb03
      have p1 : w3.cell? ⟨w2.heap.size, 1, none⟩ = some (.int .i64 2) := by rw [← hw3]; simp
      have p3 : w3.cell? ⟨w2.heap.size, 3, none⟩ = some (.slice ba bl bc) := by rw [← hw3]; simp
      have cs := (hb03.cell (p := ⟨u5.heap.size, 2, none⟩) HZ5.out).trans HS2.out
      have hcv1 := fun N : Nat => convT ((hby.below hb3).drewN N) (by decide)
      have hcv2 := fun N : Nat => convT ((HR2.out.below hb03).drewN N) (by decide)
      obtain ⟨S, hS⟩ : ∃ S : ByteArray, (⟨(u8s [0, 128]).toArray⟩ : ByteArray) = S := ⟨_, rfl⟩
      rw [hS] at hcv1 hcv2
      clear hm2 hb2 hb3 hb03 hby hil hS cn
      unfold NV.agg
      dsimp only
      go_wp2_with fail
      clear hw3
      go_big_quiet (fail)
      go_wp2_with fail
      go_roundw
      case rel => exact ⟨3, by omega, rfl, below_drewN HB3.out nq⟩
      case measure => simp [intOf]
    · have cn := (HB.out.cell (p := ⟨u6.heap.size, 3, none⟩) HZ6.out).trans HN3.out
      go_wp2_with fail
      refine (int_any (-128) wr (by decide) (by decide)).mono ?_
      rintro e w2 ⟨⟨V2, rfl, hm2⟩, hb2⟩
      have e0 : (0 : Int) = V2.cls := hm2.node.cls
      have e1 : (2 : Int) = V2.tag := hm2.node.tag
      have hby := hm2.node.bytes
      have hil : intL (-128) = [128] := by decide
      simp only [Tr.b, hil] at hby
      obtain ⟨vc, vt, kk, ba, bl, bc, ka, kl, kc⟩ := V2
      dsimp only at e0 e1 hby
      subst e0 e1
      obtain ⟨w3, hw3⟩ : ∃ w3, w2.alloc (.cells #[.int .i64 0, .int .i64 2, .bool kk, .slice ba bl bc, .slice ka kl kc] 25) = w3 := ⟨_, rfl⟩
      have hb3 : Below w2.heap.size w2 w3 := by rw [← hw3]; exact (Below.refl _ _).alloc (Nat.le_refl _) _
      have hb03 := HB.out.trans ((hb2.trans (hb3.mono hb2.size)).mono HB.out.size)
      have HB3 := Lib.hid hb03
      have p1 : w3.cell? ⟨w2.heap.size, 1, none⟩ = some (.int .i64 2) := by rw [← hw3]; simp
      have p3 : w3.cell? ⟨w2.heap.size, 3, none⟩ = some (.slice ba bl bc) := by rw [← hw3]; simp
      have cs := (hb03.cell (p := ⟨u5.heap.size, 3, none⟩) HZ5.out).trans HS3.out
      have hcv1 := fun N : Nat => convT ((hby.below hb3).drewN N) (by decide)
      have hcv2 := fun N : Nat => convT ((HR3.out.below hb03).drewN N) (by decide)
      obtain ⟨S, hS⟩ : ∃ S : ByteArray, (⟨(u8s [128]).toArray⟩ : ByteArray) = S := ⟨_, rfl⟩
      rw [hS] at hcv1 hcv2
      clear hm2 hb2 hb3 hb03 hby hil hS cn
      unfold NV.agg
      dsimp only
      go_wp2_with fail
      clear hw3
      go_big_quiet (fail)
      go_wp2_with fail
      go_roundw
      case rel => exact ⟨4, by omega, rfl, below_drewN HB3.out nq⟩
      case measure => simp [intOf]
    · have cn := (HB.out.cell (p := ⟨u6.heap.size, 4, none⟩) HZ6.out).trans HN4.out
      go_wp2_with fail
      refine (int_any (-129) wr (by decide) (by decide)).mono ?_
      rintro e w2 ⟨⟨V2, rfl, hm2⟩, hb2⟩
      have e0 : (0 : Int) = V2.cls := hm2.node.cls
      have e1 : (2 : Int) = V2.tag := hm2.node.tag
      have hby := hm2.node.bytes
      have hil : intL (-129) = [255, 127] := by decide
      simp only [Tr.b, hil] at hby
      obtain ⟨vc, vt, kk, ba, bl, bc, ka, kl, kc⟩ := V2
      dsimp only at e0 e1 hby
      subst e0 e1
      obtain ⟨w3, hw3⟩ : ∃ w3, w2.alloc (.cells #[.int .i64 0, .int .i64 2, .bool kk, .slice ba bl bc, .slice ka kl kc] 25) = w3 := ⟨_, rfl⟩
      have hb3 : Below w2.heap.size w2 w3 := by rw [← hw3]; exact (Below.refl _ _).alloc (Nat.le_refl _) _
      have hb03 := HB.out.trans ((hb2.trans (hb3.mono hb2.size)).mono HB.out.size)
      have HB3 := Lib.hid hb03
      have p1 : w3.cell? ⟨w2.heap.size, 1, none⟩ = some (.int .i64 2) := by rw [← hw3]; simp
      have p3 : w3.cell? ⟨w2.heap.size, 3, none⟩ = some (.slice ba bl bc) := by rw [← hw3]; simp
      have cs := (hb03.cell (p := ⟨u5.heap.size, 4, none⟩) HZ5.out).trans HS4.out
      have hcv1 := fun N : Nat => convT ((hby.below hb3).drewN N) (by decide)
      have hcv2 := fun N : Nat => convT ((HR4.out.below hb03).drewN N) (by decide)
      obtain ⟨S, hS⟩ : ∃ S : ByteArray, (⟨(u8s [255, 127]).toArray⟩ : ByteArray) = S := ⟨_, rfl⟩
      rw [hS] at hcv1 hcv2
      clear hm2 hb2 hb3 hb03 hby hil hS cn
      unfold NV.agg
      dsimp only
      go_wp2_with fail
      clear hw3
      go_big_quiet (fail)
      go_wp2_with fail
      go_roundw
      case rel => exact ⟨5, by omega, rfl, below_drewN HB3.out nq⟩
      case measure => simp [intOf]
    · go_wp2_with fail
      refine (wrong_yes (fun _ => True) (fun _ _ h _ => h) qA 1 [1] (by decide) (by decide) wr trivial (wantedA 1 (by decide)) (by decide)).mono ?_
      rintro e w2 ⟨rfl, hb2⟩
      have HB2 := Lib.hid (HB.out.trans (hb2.mono HB.out.size))
      clear hb2
      go_wp2_with fail
      refine (int_any 5 w2 (by decide) (by decide)).mono ?_
      rintro e w3 ⟨⟨V1, rfl, hm1⟩, hb3⟩
      have HB3 := Lib.hid (HB2.out.trans (hb3.mono HB2.out.size))
      have HM1 := Lib.hid hm1.node
      obtain ⟨c1, t1, k1, ba1, bl1, bc1, ka1, kl1, kc1⟩ := V1
      unfold NV.agg
      dsimp only
      clear hm1 hb3
      go_wp2_with fail
      refine (prim_any 0 5 _ 1 1 [0] _ (reads8_lit w3 5 [0] #[.int .u8 0] rfl (by unfold maxLen; simp)) (by decide) (by decide)).mono ?_
      rintro e w4 ⟨⟨V2, rfl, hm2⟩, hb4⟩
      have hb34 : Below w3.heap.size w3 w4 := ((Below.refl _ _).alloc (Nat.le_refl _) (.cells #[.int .u8 0] 5)).trans (hb4.mono (by simp))
      have HB4 := Lib.hid (HB3.out.trans (hb34.mono HB3.out.size))
      have HM1 := Lib.hid (HM1.out.under hb34)
      have HM2 := Lib.hid hm2.node
      obtain ⟨c2, t2, k2, ba2, bl2, bc2, ka2, kl2, kc2⟩ := V2
      unfold NV.agg
      dsimp only
      clear hm2 hb4 hb34
      go_wp2_with fail
      refine (cons_any 0 16 _ 2 2 _ _ (nodes2 w4 ⟨c1, t1, k1, ba1, bl1, bc1, ka1, kl1, kc1⟩ ⟨c2, t2, k2, ba2, bl2, bc2, ka2, kl2, kc2⟩ _ _ HM1.out HM2.out 25) (by decide)).mono ?_
      rintro e w5 ⟨⟨V3, rfl, hm3⟩, hb5⟩
      have HB5 := Lib.hid (HB4.out.trans ((((Below.refl w4.heap.size w4).alloc (Nat.le_refl _) _).trans (hb5.mono (by simp))).mono HB4.out.size))
      have HM3 := Lib.hid hm3.node
      obtain ⟨c3, t3, k3, ba3, bl3, bc3, ka3, kl3, kc3⟩ := V3
      unfold NV.agg
      dsimp only
      clear hm3 hb5
      go_wp2_with fail
      refine (isT_yes (fun _ => True) (fun _ _ h _ => h) qA ⟨c3, t3, k3, ba3, bl3, bc3, ka3, kl3, kc3⟩ _ w5 HM3.out (by decide) (by decide) trivial (fun p hp => ?_) 4 2 (by decide) (by decide)).mono ?_
      · have hp2 : p ∈ [((1 : Nat), exT), (2, Tr.mk 0 2 false [5] []), (2, Tr.mk 0 5 false [0] [])] := hp
        simp only [List.mem_cons, List.mem_nil_iff, or_false] at hp2
        rcases hp2 with rfl | rfl | rfl
        · exact wantedA 16 (by decide)
        · exact wantedA 2 (by decide)
        · exact wantedA 5 (by decide)
      rintro e w6 ⟨rfl, hb6⟩
      have HB6 := Lib.hid (HB5.out.trans (hb6.mono HB5.out.size))
      clear hb6
      go_wp2_with fail
      go_ret
      exact ⟨rfl, G0.out.trans (HB6.out.mono G0.out.size)⟩

end Go.Proofs.YtbikghejedkkeaaDoor
