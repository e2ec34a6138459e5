/-
  tree.Copy, tree.Cons.
-/
import Derived.Test.YtkmphiakciihfaaDoorTrL
namespace Go.Proofs.YtkmphiakciihfaaDoor
open Go.RowKit

theorem cells5 (w : World) (c t : Int) (kk : Bool) (ba : Option Addr) (bl bc : Nat) (ka : Option Addr) (kl kc : Nat) (E : TypeId) :
    CellsAt (w.alloc (.cells #[.int .i64 c, .int .i64 t, .bool kk, .slice ba bl bc, .slice ka kl kc] E)) w.heap.size 0 ⟨c, t, kk, ba, bl, bc, ka, kl, kc⟩ := by
  constructor <;> simp

/-- Five cells that may be written. -/
structure Open5 (w : World) (g : Nat) : Prop where
  f0 : w.frozen? ⟨g, 0, none⟩ = false
  f1 : w.frozen? ⟨g, 1, none⟩ = false
  f2 : w.frozen? ⟨g, 2, none⟩ = false
  f3 : w.frozen? ⟨g, 3, none⟩ = false
  f4 : w.frozen? ⟨g, 4, none⟩ = false

theorem open5_new (w : World) (c t : Int) (kk : Bool) (ba : Option Addr) (bl bc : Nat) (ka : Option Addr) (kl kc : Nat) (E : TypeId) :
    Open5 (w.alloc (.cells #[.int .i64 c, .int .i64 t, .bool kk, .slice ba bl bc, .slice ka kl kc] E)) w.heap.size := by
  constructor <;> simp

theorem Open5.below {w w' : World} {g B : Nat} (h : Open5 w g) (hb : Below B w w') (hg : g < B) : Open5 w' g :=
  ⟨(hb.frozen (p := ⟨g, 0, none⟩) hg).trans h.f0, (hb.frozen (p := ⟨g, 1, none⟩) hg).trans h.f1, (hb.frozen (p := ⟨g, 2, none⟩) hg).trans h.f2, (hb.frozen (p := ⟨g, 3, none⟩) hg).trans h.f3, (hb.frozen (p := ⟨g, 4, none⟩) hg).trans h.f4⟩

theorem Open5.setCell {w : World} {g : Nat} (h : Open5 w g) (p : Addr) (v : Value) : Open5 (w.setCell p v) g := by
  obtain ⟨a, b, c, d, e⟩ := h
  constructor <;> simpa

theorem CellsAt.set3 {w : World} {g : Nat} {V : NV} (h : CellsAt w g 0 V) (a : Option Addr) (n c : Nat) : CellsAt (w.setCell ⟨g, 3, none⟩ (.slice a n c)) g 0 ⟨V.cls, V.tag, V.cons, a, n, c, V.ka, V.kl, V.kc⟩ := by
  constructor
  · rw [cell_off _ _ _ _ _ (by decide)]; exact h.c0
  · rw [cell_off _ _ _ _ _ (by decide)]; exact h.c1
  · rw [cell_off _ _ _ _ _ (by decide)]; exact h.c2
  · exact World.cell?_setCell_same _ _ _ h.c3
  · rw [cell_off _ _ _ _ _ (by decide)]; exact h.c4

theorem CellsAt.set4 {w : World} {g : Nat} {V : NV} (h : CellsAt w g 0 V) (a : Option Addr) (n c : Nat) : CellsAt (w.setCell ⟨g, 4, none⟩ (.slice a n c)) g 0 ⟨V.cls, V.tag, V.cons, V.ba, V.bl, V.bc, a, n, c⟩ := by
  constructor
  · rw [cell_off _ _ _ _ _ (by decide)]; exact h.c0
  · rw [cell_off _ _ _ _ _ (by decide)]; exact h.c1
  · rw [cell_off _ _ _ _ _ (by decide)]; exact h.c2
  · rw [cell_off _ _ _ _ _ (by decide)]; exact h.c3
  · exact World.cell?_setCell_same _ _ _ h.c4

theorem CellsAt.other {w : World} {b off : Nat} {V : NV} (h : CellsAt w b off V) (p : Addr) (v : Value) (hp : p.block ≠ b) : CellsAt (w.setCell p v) b off V :=
  h.of fun i => World.cell?_setCell_other w p ⟨b, i, none⟩ v (fun e => hp (by rw [e]))

theorem NodesAt.under {w w' : World} {a : Option Addr} {len cap : Nat} {ks : List Tr} {B : Nat} (h : NodesAt w a len cap ks) (hB : w.heap.size = B) (hw : Below B w w') : NodesAt w' a len cap ks := by
  subst hB
  exact h.below hw

set_option maxRecDepth 100000 in
set_option maxHeartbeats 2000000 in
theorem copy_of (c t : Int) (kk : Bool) (l : List Nat) (ks : List Tr) (hI : ∀ T ∈ ks, CopyOk T) (hm : ks.length ≤ 1000000) (hl : l.length ≤ 17592186044416) : CopyOk (.mk c t kk l ks) := by
  intro V w hn
  have e1 : c = V.cls := hn.cls
  have e2 : t = V.tag := hn.tag
  have e3 : kk = V.cons := hn.cons
  have hby := hn.bytes
  have hkd := hn.kids
  have hsm := hn.small
  obtain ⟨vc, vt, vk, ba, bl, bc, ka, kl, kc⟩ := V
  dsimp only at e1 e2 e3 hby hkd
  subst e1 e2 e3
  simp only [Tr.b, Tr.kids] at hby hkd hsm
  have hbl := Lib.hid hby.length
  have hkl := Lib.hid hkd.length
  obtain ⟨w1, hw1⟩ : ∃ w1, w.alloc (.cells #[.int .i64 c, .int .i64 t, .bool kk, .slice ba bl bc, .slice ka kl kc] 25) = w1 := ⟨_, rfl⟩
  obtain ⟨w2, hw2⟩ : ∃ w2, w1.alloc (.cells #[.int .i64 0, .int .i64 0, .bool false, .slice none 0 0, .slice none 0 0] 25) = w2 := ⟨_, rfl⟩
  have hz1 : w1.heap.size = w.heap.size + 1 := by rw [← hw1]; simp
  have hz2 : w2.heap.size = w.heap.size + 2 := by rw [← hw2]; simp [hz1]
  have hb1 : Below w.heap.size w w1 := by rw [← hw1]; exact (Below.refl _ _).alloc (Nat.le_refl _) _
  have hb12 : Below w1.heap.size w1 w2 := by rw [← hw2]; exact (Below.refl _ _).alloc (Nat.le_refl _) _
  have hb2 : Below w.heap.size w w2 := hb1.trans (hb12.mono (by omega))
  have ca := (show CellsAt w1 w.heap.size 0 ⟨c, t, kk, ba, bl, bc, ka, kl, kc⟩ by rw [← hw1]; exact cells5 w c t kk ba bl bc ka kl kc _).below hb12 (by omega)
  have oa := (show Open5 w1 w.heap.size by rw [← hw1]; exact open5_new w c t kk ba bl bc ka kl kc _).below hb12 (by omega)
  have cb : CellsAt w2 (w.heap.size + 1) 0 ⟨0, 0, false, none, 0, 0, none, 0, 0⟩ := by rw [← hw2, ← hz1]; exact cells5 w1 0 0 false none 0 0 none 0 0 _
  have ob : Open5 w2 (w.heap.size + 1) := by rw [← hw2, ← hz1]; exact open5_new w1 0 0 false none 0 0 none 0 0 _
  have HC := Lib.hid (cloneQ_any ba bl bc l w2 (hby.below hb2) (by rw [← hbl.out]; exact hl))
  have q3 := ca.c3
  have CA := Lib.hid ca
  have CB := Lib.hid cb
  have OA := Lib.hid oa
  have OB := Lib.hid ob
  have HB2 := Lib.hid hb2
  have HZ := Lib.hid (And.intro hz1 hz2)
  have HKD := Lib.hid hkd
  have HSM := Lib.hid hsm
  have HI := Lib.hid hI
  have HM := Lib.hid hm
  clear hn hby hkd hsm hb1 hb12 hb2 ca oa cb ob hz1 hz2 hI hm hl
  unfold NV.agg
  dsimp only
  go_enter Tryd.func42, Tryd.ntmps42
  dsimp only at q3
  rw [Nat.zero_add] at q3
  go_wp2_with fail
  refine HC.out.mono ?_
  rintro e w3 ⟨⟨v3, rfl, ho3⟩, hb3⟩
  obtain ⟨a3, c3, rfl, -, -⟩ := ho3.form
  have hz3 := hb3.size
  obtain ⟨hz1, hz2⟩ := HZ.out
  have ca3 := (CA.out.below hb3 (by omega)).set3 a3 l.length c3
  dsimp only at ca3
  have oa3 := OA.out.below hb3 (by omega)
  have cb3 := (CB.out.below hb3 (by omega)).other ⟨w.heap.size, 3, none⟩ (.slice a3 l.length c3) (by show w.heap.size ≠ w.heap.size + 1; omega)
  have ob3 := (OB.out.below hb3 (by omega)).setCell ⟨w.heap.size, 3, none⟩ (.slice a3 l.length c3)
  have hbw3 : Below w.heap.size w (w3.setCell ⟨w.heap.size, 3, none⟩ (.slice a3 l.length c3)) := (HB2.out.trans (hb3.mono (by omega))).setCell (p := ⟨w.heap.size, 3, none⟩) (Nat.le_refl _) _
  have HK := Lib.hid (copies_of ks HI.out ka kl kc _ (HKD.out.under rfl hbw3) (by rw [← hkl.out]; exact HM.out))
  have p3 := (CA.out.below hb3 (by omega)).c3
  have p4 := (CA.out.below hb3 (by omega)).c4
  have f3 := oa3.f3
  dsimp only at p3 p4
  rw [Nat.zero_add] at p3 p4
  have CA3 := Lib.hid ca3
  have OA3 := Lib.hid (oa3.setCell ⟨w.heap.size, 3, none⟩ (.slice a3 l.length c3))
  have CB3 := Lib.hid cb3
  have OB3 := Lib.hid ob3
  have HO3 := Lib.hid ho3
  have HBW3 := Lib.hid hbw3
  have HZ3 := Lib.hid hz3
  clear ho3 hb3 ca3 oa3 cb3 ob3 hbw3 q3 hz1 hz2 hz3 hw1 hw2
  go_wp2_with fail
  refine HK.out.mono ?_
  rintro e w4 ⟨⟨v4, rfl, hm4⟩, hb4⟩
  obtain ⟨a4, c4, rfl, -, -, -⟩ := hm4.form
  have hz4 := hb4.size
  obtain ⟨hz1, hz2⟩ := HZ.out
  have hz3 := HZ3.out
  simp only [World.size_setCell] at hz4
  have ca4 := (CA3.out.below hb4 (by simp only [World.size_setCell]; omega)).set4 a4 ks.length c4
  dsimp only at ca4
  have oa4 := OA3.out.below hb4 (by simp only [World.size_setCell]; omega)
  have cb4 := (CB3.out.below hb4 (by simp only [World.size_setCell]; omega)).other ⟨w.heap.size, 4, none⟩ (.slice a4 ks.length c4) (by show w.heap.size ≠ w.heap.size + 1; omega)
  have ob4 := (OB3.out.below hb4 (by simp only [World.size_setCell]; omega)).setCell ⟨w.heap.size, 4, none⟩ (.slice a4 ks.length c4)
  have hbw4 : Below w.heap.size w (w4.setCell ⟨w.heap.size, 4, none⟩ (.slice a4 ks.length c4)) := (HBW3.out.trans (hb4.mono (by simp only [World.size_setCell]; omega))).setCell (p := ⟨w.heap.size, 4, none⟩) (Nat.le_refl _) _
  have p4 := (CA3.out.below hb4 (by simp only [World.size_setCell]; omega)).c4
  have f4 := oa4.f4
  dsimp only at p4
  rw [Nat.zero_add] at p4
  have r0 := ca4.c0
  have r1 := ca4.c1
  have r2 := ca4.c2
  have r3 := ca4.c3
  have r4 := ca4.c4
  have s0 := cb4.c0
  have s1 := cb4.c1
  have s2 := cb4.c2
  have s3 := cb4.c3
  have s4 := cb4.c4
  obtain ⟨g0, g1, g2, g3, g4⟩ := ob4
  dsimp only at r0 r1 r2 r3 r4 s0 s1 s2 s3 s4
  simp only [Nat.zero_add] at r0 r1 r2 r3 r4 s0 s1 s2 s3 s4
  simp only [hz1]
  obtain ⟨V, hV⟩ : ∃ V : NV, V = ⟨c, t, kk, a3, l.length, c3, a4, ks.length, c4⟩ := ⟨_, rfl⟩
  have hcs := putNode_cells (w4.setCell ⟨w.heap.size, 4, none⟩ (.slice a4 ks.length c4)) (w.heap.size + 1) V s0 s1 s2 s3 s4
  have hown3 : OwnQ .u8 5 _ (w4.setCell ⟨w.heap.size, 4, none⟩ (.slice a4 ks.length c4)) (.slice a3 l.length c3) l := rowSame HO3.out fun g hg => by
    have h1 := World.ownsRow.lt HO3.out g hg
    rw [Below.heap_setCell _ _ _ _ (by show g ≠ w.heap.size; omega), hb4.block g (by simp only [World.size_setCell]; omega), Below.heap_setCell _ _ _ _ (by show g ≠ w.heap.size; omega)]
  have HP := Lib.hid (show RetsNode w.heap.size (putNode (w4.setCell ⟨w.heap.size, 4, none⟩ (.slice a4 ks.length c4)) (w.heap.size + 1) V) (.mk c t kk l ks) (.returned V.agg) ∧ Below w.heap.size w (putNode (w4.setCell ⟨w.heap.size, 4, none⟩ (.slice a4 ks.length c4)) (w.heap.size + 1) V) by
    refine ⟨⟨V, rfl, ?_⟩, putNode_below hbw4 (by omega) V⟩
    have hown : OwnQ .u8 5 _ (putNode (w4.setCell ⟨w.heap.size, 4, none⟩ (.slice a4 ks.length c4)) (w.heap.size + 1) V) (.slice a3 l.length c3) l := rowSame hown3 fun g hg => putNode_heap _ _ V g (by have h1 := (World.ownsRow.lt HO3.out g hg).1; omega)
    have hS : ∀ g, (Value.slice a3 l.length c3).ownBlock = some g → w.heap.size ≤ g ∧ g < w3.heap.size := fun g hg => by have := World.ownsRow.lt HO3.out g hg; omega
    have hk : MineK 5 25 (putNode (w4.setCell ⟨w.heap.size, 4, none⟩ (.slice a4 ks.length c4)) (w.heap.size + 1) V) (fun g => w3.heap.size ≤ g) (.slice a4 ks.length c4) ks := by
      have h1 : MineK 5 25 w4 (fun g => w3.heap.size ≤ g) (.slice a4 ks.length c4) ks := hm4.wide fun g hg => by simpa using hg
      exact h1.heap fun g hg => by rw [putNode_heap _ _ _ _ (by omega), Below.heap_setCell _ _ _ _ (by show g ≠ w.heap.size; omega)]
    subst hV
    exact MineT.of (S1 := fun g => w.heap.size ≤ g ∧ g < w3.heap.size) (S2 := fun g => w3.heap.size ≤ g) rfl rfl rfl (OwnQ.mono hown (Nat.zero_le _)) hS HSM.out hk (fun g h1 h2 => by omega) (fun g h1 => h1.1) (fun g h1 => by show w.heap.size ≤ g; omega))
  subst hV
  have d0 := hcs.c0
  have d1 := hcs.c1
  have d2 := hcs.c2
  have d3 := hcs.c3
  have d4 := hcs.c4
  dsimp only at d0 d1 d2 d3 d4
  simp only [Nat.zero_add] at d0 d1 d2 d3 d4
  clear hcs hown3 ca4 oa4 cb4 hbw4 hm4 hb4 hz4 hz3 hz1 hz2 HK HC
  go_wp2_with fail
  change bodyPost _ _ _ _ _ (putNode (w4.setCell ⟨w.heap.size, 4, none⟩ (.slice a4 ks.length c4)) (w.heap.size + 1) ⟨c, t, kk, a3, l.length, c3, a4, ks.length, c4⟩)
  generalize putNode (w4.setCell ⟨w.heap.size, 4, none⟩ (.slice a4 ks.length c4)) (w.heap.size + 1) ⟨c, t, kk, a3, l.length, c3, a4, ks.length, c4⟩ = w5 at *
  refine bodyPost_ret (v := .agg #[.int .i64 c, .int .i64 t, .bool kk, .slice a3 l.length c3, .slice a4 ks.length c4]) ?_ rfl HP.out
  rw [results_cell_one rfl]
  go_simp

theorem copy_ok : ∀ (n : Nat) (T : Tr), T.wt ≤ n → n ≤ 1000000 → CopyOk T
  | 0, T, h, _ => by have := T.wt_pos; omega
  | n + 1, .mk c t k l ks, h, hn => by
    simp only [Tr.wt] at h
    exact copy_of c t k l ks (fun T hT => copy_ok n T (by have := wtL_mem hT; omega) (by omega)) (by have := wtL_len ks; omega) (by omega)

theorem copy_any (V : NV) (T : Tr) (w : World) (hn : NodeAt w V T) (h : T.wt ≤ 1000000) : Calls Tryd.prog 42 #[V.agg] w fun e w' => RetsNode w.heap.size w' T e ∧ Below w.heap.size w w' :=
  copy_ok 1000000 T h (Nat.le_refl _) V w hn

set_option maxHeartbeats 2000000 in
theorem cons_any (c t : Int) (a : Option Addr) (len cap : Nat) (ks : List Tr) (w : World) (h : NodesAt w a len cap ks) (hm : wtL ks ≤ 1000000) :
    Calls Tryd.prog 23 #[.int .i64 c, .int .i64 t, .slice a len cap] w fun e w' => RetsNode w.heap.size w' (.mk c t true [] ks) e ∧ Below w.heap.size w w' := by
  have hb0 : Below w.heap.size w (w.alloc (.cells #[.int .i64 0, .int .i64 0, .bool false, .slice none 0 0, .slice none 0 0] 25)) := (Below.refl _ _).alloc (Nat.le_refl _) _
  have HC := Lib.hid (copies_of ks (fun T hT => copy_ok 1000000 T (by have := wtL_mem hT; omega) (Nat.le_refl _)) a len cap _ (h.below hb0) (by have := wtL_len ks; have := h.length; omega))
  have HB0 := Lib.hid hb0
  clear h hb0 hm
  go_enter Tryd.func23, Tryd.ntmps23
  go_wp2_with fail
  refine HC.out.mono ?_
  rintro e w1 ⟨⟨v, rfl, ho⟩, hb⟩
  obtain ⟨a', c', rfl, -, -, -⟩ := ho.form
  have ca := (cells5 w 0 0 false none 0 0 none 0 0 25).below hb (by simp)
  have oa := (open5_new w 0 0 false none 0 0 none 0 0 25).below hb (by simp)
  have HO := Lib.hid ho
  have HB := Lib.hid hb
  have z0 := ca.c0
  have z1 := ca.c1
  have z2 := ca.c2
  have z3 := ca.c3
  have z4 := ca.c4
  obtain ⟨f0, f1, f2, f3, f4⟩ := oa
  dsimp only at z0 z1 z2 z3 z4
  simp only [Nat.zero_add] at z0 z1 z2 z3 z4
  clear ho hb ca
  go_wp2_with fail
  obtain ⟨V, hV⟩ : ∃ V : NV, V = ⟨c, t, true, none, 0, 0, a', ks.length, c'⟩ := ⟨_, rfl⟩
  have hcs := putNode_cells w1 w.heap.size V z0 z1 z2 z3 z4
  have HP := Lib.hid (show RetsNode w.heap.size (putNode w1 w.heap.size V) (.mk c t true [] ks) (.returned V.agg) ∧ Below w.heap.size w (putNode w1 w.heap.size V) by
    refine ⟨⟨V, rfl, ?_⟩, putNode_below (HB0.out.trans (HB.out.mono (by simp))) (Nat.le_refl _) V⟩
    have hk : MineK 5 25 (putNode w1 w.heap.size V) (fun g => w.heap.size < g) (.slice a' ks.length c') ks := by
      have h1 : MineK 5 25 w1 (fun g => w.heap.size < g) (.slice a' ks.length c') ks := HO.out.wide fun g hg => by simp at hg; omega
      exact h1.heap fun g hg => putNode_heap _ _ _ _ (by omega)
    subst hV
    exact MineT.of (S1 := fun _ => False) (S2 := fun g => w.heap.size < g) rfl rfl rfl (OwnQ.nil _ _ _ _) (fun g hg => by simp [Value.ownBlock] at hg) (fun x hx => by cases hx) hk (fun g h1 h2 => h1) (fun g h1 => h1.elim) (fun g h1 => by show w.heap.size ≤ g; omega))
  subst hV
  have d0 := hcs.c0
  have d1 := hcs.c1
  have d2 := hcs.c2
  have d3 := hcs.c3
  have d4 := hcs.c4
  dsimp only at d0 d1 d2 d3 d4
  simp only [Nat.zero_add] at d0 d1 d2 d3 d4
  change bodyPost _ _ _ _ _ (putNode w1 w.heap.size ⟨c, t, true, none, 0, 0, a', ks.length, c'⟩)
  generalize putNode w1 w.heap.size ⟨c, t, true, none, 0, 0, a', ks.length, c'⟩ = w2 at *
  clear hcs z0 z1 z2 z3 z4 f0 f1 f2 f3 f4
  refine bodyPost_ret (v := .agg #[.int .i64 c, .int .i64 t, .bool true, .slice none 0 0, .slice a' ks.length c']) ?_ rfl HP.out
  rw [results_cell_one rfl]
  go_simp

end Go.Proofs.YtkmphiakciihfaaDoor
