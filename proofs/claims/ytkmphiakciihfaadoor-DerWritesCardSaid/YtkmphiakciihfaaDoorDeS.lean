/-
  Texts of ours, one behind the other: DeE DeF
-/
import Derived.Test.YtkmphiakciihfaaDoorDeQ
import Derived.Test.YtkmphiakciihfaaDoorSeqF
import Derived.Test.YtkmphiakciihfaaDoorTrG
import Derived.Test.YtkmphiakciihfaaDoorTrN
import Derived.Maps.OwnIn

section
namespace Go.Proofs.YtkmphiakciihfaaDoor
open Go.RowKit Go.Shelf
attribute [local go_sem] Oper.semAt_some

/-- A piece of a node's content: the slice, what it reads as, whether a set in it falls. -/
structure Pc where
  a : Option Addr
  n : Nat
  c : Nat
  l : List UInt8
  f : Bool
def Pc.is (x : Pc) : List UInt8 × Bool := (x.l, x.f)
abbrev encP (x : Pc) : Array Value := #[.slice x.a x.n x.c]
/-- A node's pieces. -/
def pcsT (T : Tr) : List (List UInt8 × Bool) := if T.cons then T.kids.map (fun K => (K.der, K.falls)) else [(u8s T.b, false)]

/-- How the world moves by the making of a piece. -/
structure MadeP (T : Tr) (Z wb : Nat) (pre : List Pc) (x : Pc) (X X' : World) : Prop where
  is : (pcsT T)[pre.length]? = some x.is
  kp : KpV (fun k => k = wb) X X'
  below : Below Z X X'
  bts : Bts X' x.a x.n x.c x.l
  new : 0 < x.n → ∀ ad, x.a = some ad → X.heap.size ≤ ad.block ∨ ad.block < Z
  cell : ∀ f, Boxed X wb 57 (.bool f) → Boxed X' wb 57 (.bool (f || x.f))

/-- What is said of writer.bytes. -/
def WrOk (T : Tr) : Prop := ∀ (w0 : World) (V : NV) (b off wb : Nat) (f : Bool) (w : World), NodeAt w0 V T → CellsAt w0 b off V → T.fine → T.wt ≤ 1000000 → Below w0.heap.size w0 w → w0.heap.size ≤ wb → Boxed w wb 57 (.bool f) →
  Calls Tryd.prog 31 #[.pointer (some ⟨wb, 0, none⟩), .pointer (some ⟨b, off, none⟩)] w fun e w' => (∃ v, e = .returned v ∧ Own8 5 w.heap.size w' v T.der) ∧ Boxed w' wb 57 (.bool (f || T.falls)) ∧ KpV (fun k => k = wb) w w' ∧ Below w0.heap.size w w'

/-- What the iterator asks of the world. -/
def NdP (w0 : World) (wb : Nat) (X : World) : Prop := (∃ f, Boxed X wb 57 (.bool f)) ∧ Below w0.heap.size w0 X

theorem pieces_m (w : World) (b off wb : Nat) : Calls Tryd.prog 53 #[.pointer (some ⟨wb, 0, none⟩), .pointer (some ⟨b, off, none⟩)] w fun e w' => e = .returned (.func (.func 61) #[] #[.pointer (some ⟨w.heap.size + 1, 0, none⟩), .pointer (some ⟨w.heap.size, 0, none⟩)]) ∧ w' = (w.alloc (.cells #[.pointer (some ⟨wb, 0, none⟩)] 74)).alloc (.cells #[.pointer (some ⟨b, off, none⟩)] 59) := by
  go_enter Tryd.func53, Tryd.ntmps53
  go_wp2
  go_ret
  exact ⟨rfl, rfl⟩

set_option maxRecDepth 100000 in
set_option maxHeartbeats 4000000 in
theorem pieces_one (n : Nat) (hn : 1 ≤ n) (w0 : World) (V : NV) (T : Tr) (b off wb : Nat) (hnode : NodeAt w0 V T) (hcells : CellsAt w0 b off V) (hk : T.cons = false) (hwt : T.wt ≤ 1000000) (bt bw : Nat) (w : World)
    (hbt : Boxed w bt 59 (.pointer (some ⟨b, off, none⟩))) (E : Nat → Prop) (hbelow : Below w0.heap.size w0 w) :
    SeqP (pcsT T).length (MadeP T w0.heap.size wb) (NdP w0 wb) E Fence.wide n Tryd.prog 61 #[.pointer (some ⟨bt, 0, none⟩), .pointer (some ⟨bw, 0, none⟩)] encP (fun xs => xs.map Pc.is = pcsT T) (fun _ => True) w := by
  intro l J J2 Jx W hl hlW hB hNd hJ hJx hM hY h0
  have hbl := hbt.lt
  have p0 : W.cell? ⟨bt, 0, none⟩ = some (.pointer (some ⟨b, off, none⟩)) := (hB.cell (p := ⟨bt, 0, none⟩) hbl).trans hbt.cell
  have hbW : Below w0.heap.size w0 W := hbelow.trans (hB.mono hbelow.size)
  have hcx := hcells.below hbW hcells.lt
  have p2 := hcx.c2
  have p3 := hcx.c3
  have e3 := hnode.cons
  rw [hk] at e3
  rw [← e3] at p2
  have hby : Bts w0 V.ba V.bl V.bc (u8s T.b) := hnode.bytes.bts hnode.small
  have hpc : pcsT T = [(u8s T.b, false)] := by unfold pcsT; rw [hk]; rfl
  have hJ2 := hM [] ⟨V.ba, V.bl, V.bc, u8s T.b, false⟩ W W (by rw [hpc]; simp) h0 ⟨by rw [hpc]; rfl, KpV.refl _ _, Below.refl _ _, hby.below hbW, fun hp ad ha => by
    obtain ⟨b1, o1, e, hlt, -⟩ := hby.cells hp
    dsimp only at ha
    rw [e] at ha
    cases ha
    exact .inr hlt, fun f hf => by rw [Bool.or_false]; exact hf⟩
  obtain ⟨f1, t1, a1, b1, hy1, hR1⟩ := hY [] ⟨V.ba, V.bl, V.bc, u8s T.b, false⟩ W (by rw [hpc]; simp) hJ2
  dsimp only [encP] at hy1
  have HR1 := Lib.hid hR1
  have HPC := Lib.hid hpc
  obtain ⟨vc, vt, vk, ba, bl, bc, ka, kl, kc⟩ := V
  dsimp only at p2 p3 hy1
  clear hR1 hJ2 hY hM hJ hJx h0 hpc hby hcx hbW e3 hNd hnode hcells hB
  refine callsIn_of_wp Tryd.func61 rfl trivial ?_ rfl
  simp only [Tryd.ntmps61, List.size_toArray, List.length_cons, List.length_nil, Nat.reduceAdd, Nat.reduceSub, Array.replicate_succ, Array.replicate_zero, List.push_toArray, List.append_toArray, List.nil_append, List.cons_append]
  gi_wp2_with fail
  refine HR1.out.mono ?_
  rintro e X (⟨rfl, hJ3, hk3⟩ | ⟨rfl, hx3, hk3⟩)
  · have HX := Lib.hid hJ3
    clear hJ3 hk3 hy1 p0 p2 p3
    gi_wp2_with fail
    refine bodyPost_ret (results_none rfl _ _ _) rfl ?_
    exact ⟨⟨_, rfl⟩, .inl ⟨_, by rw [HPC.out]; rfl, HX.out⟩⟩
  · have HX := Lib.hid hx3
    clear hx3 hk3 hy1 p0 p2 p3
    gi_wp2_with fail
    refine bodyPost_ret (results_none rfl _ _ _) rfl ?_
    exact ⟨⟨_, rfl⟩, .inr ⟨_, trivial, HX.out⟩⟩

/-- Between two kids. -/
structure PcI (T : Tr) (w0 : World) (l : Nat) (E : Nat → Prop) (J : List Pc → World → Prop) (W : World) (k : Nat) (wr : World) : Prop where
  at' : ∃ pre : List Pc, pre.length = k ∧ pre.map Pc.is = (pcsT T).take k ∧ J pre wr
  kp : KpV (fun k => k = l ∨ E k) W wr

theorem cut_propE {X Y : Prop} (f : Hid X → Y) (x : X) : Y := f (Lib.hid x)
theorem pcsT_kids {T : Tr} (hk : T.cons = true) (k : Nat) (h : k < T.kids.length) : (pcsT T)[k]? = some ((T.kids[k]).der, (T.kids[k]).falls) := by
  unfold pcsT
  rw [if_pos hk, List.getElem?_map, List.getElem?_eq_getElem h]
  rfl
theorem pcsT_length {T : Tr} (hk : T.cons = true) : (pcsT T).length = T.kids.length := by unfold pcsT; rw [if_pos hk, List.length_map]
theorem take_is {L : List (List UInt8 × Bool)} {pre : List Pc} {k : Nat} {x : Pc} (h : pre.map Pc.is = L.take k) (hx : L[k]? = some x.is) : (pre ++ [x]).map Pc.is = L.take (k + 1) := by
  rw [List.map_append, h, List.take_add_one, hx]
  rfl

set_option maxRecDepth 100000 in
set_option maxHeartbeats 4000000 in
theorem pieces_many (n : Nat) (hn : 1 ≤ n) (w0 : World) (V : NV) (T : Tr) (b off wb : Nat) (hnode : NodeAt w0 V T) (hcells : CellsAt w0 b off V) (hk : T.cons = true) (hwt : T.wt ≤ 1000000) (hfine : T.fine) (hI : ∀ K ∈ T.kids, WrOk K) (hwb : w0.heap.size ≤ wb) (bt bw : Nat) (w : World)
    (hbt : Boxed w bt 59 (.pointer (some ⟨b, off, none⟩))) (hbw : Boxed w bw 74 (.pointer (some ⟨wb, 0, none⟩))) (E : Nat → Prop) (hEw : E wb) (hE : ¬ E bt ∧ ¬ E bw) (hbelow : Below w0.heap.size w0 w) :
    SeqP (pcsT T).length (MadeP T w0.heap.size wb) (NdP w0 wb) E Fence.wide n Tryd.prog 61 #[.pointer (some ⟨bt, 0, none⟩), .pointer (some ⟨bw, 0, none⟩)] encP (fun xs => xs.map Pc.is = pcsT T) (fun _ => True) w := by
  intro l J J2 Jx W hl hlW hB hNd hJ hJx hM hY h0
  have HBT := Lib.hid (show Boxed W bt 59 (.pointer (some ⟨b, off, none⟩)) from (hB.block bt hbt.lt).trans hbt)
  have HBW := Lib.hid (show Boxed W bw 74 (.pointer (some ⟨wb, 0, none⟩)) from (hB.block bw hbw.lt).trans hbw)
  have HNE := Lib.hid (show ¬ (bt = l ∨ E bt) ∧ ¬ (bw = l ∨ E bw) from ⟨fun h => by rcases h with h | h; (· have := hbt.lt; omega); (· exact hE.1 h), fun h => by rcases h with h | h; (· have := hbw.lt; omega); (· exact hE.2 h)⟩)
  have hcx := hcells.below (hbelow.trans (hB.mono hbelow.size)) hcells.lt
  have p0 := HBT.out.cell
  have p2 := hcx.c2
  have p4 := hcx.c4
  have e3 := hnode.cons
  rw [hk] at e3
  rw [← e3] at p2
  have HC := Lib.hid hcells
  have hkd := hnode.kids
  have hkl := Lib.hid hkd.length
  have hkm := Nat.le_trans hkd.le hkd.max
  unfold maxLen at hkm
  have HPL := Lib.hid (pcsT_length hk)
  have HPK := Lib.hid (fun k h => pcsT_kids hk k h)
  have HF := Lib.hid (show ∀ K ∈ T.kids, K.fine ∧ K.wt ≤ 1000000 from fun K hK => by
    obtain ⟨c, t, kk, lb, ks⟩ := T
    simp only [Tr.wt] at hwt
    have := wtL_mem (show K ∈ ks from hK)
    exact ⟨(fineL_iff _).1 hfine.2 K hK, by omega⟩)
  have HKD := Lib.hid hkd
  have HI := Lib.hid hI
  have HND := Lib.hid hNd
  have HJ := Lib.hid hJ
  have HM := Lib.hid hM
  have HY := Lib.hid hY
  have HEW := Lib.hid hEw
  have HWB := Lib.hid hwb
  have HST := Lib.hid (show PcI T w0 l E J W 0 W from ⟨⟨[], rfl, rfl, h0⟩, KpV.refl _ _⟩)
  obtain ⟨vc, vt, vk, ba, bl, bc, ka, kl, kc⟩ := V
  dsimp only at p2 p4 hkl hkm HKD
  clear hcx e3 hnode hcells hk hwt hfine hI hwb hbt hbw hEw hE hbelow hl hlW hB hNd hJ hJx hM hY h0 hkd
  refine callsIn_of_wp Tryd.func61 rfl trivial ?_ rfl
  simp only [Tryd.ntmps61, List.size_toArray, List.length_cons, List.length_nil, Nat.reduceAdd, Nat.reduceSub, Array.replicate_succ, Array.replicate_zero, List.push_toArray, List.append_toArray, List.nil_append, List.cons_append]
  gi_wp2_with fail
  gi_loopw [21] (fun i wr => ∃ k : Nat, k ≤ kl ∧ i = .int .i64 (k : Int) ∧ PcI T w0 l E J W k wr) (fun i _ => kl - (intOf i).toNat)
  case atStart => exact ⟨0, Nat.zero_le _, rfl, HST.out⟩
  case round =>
    obtain ⟨k, hk, rfl, hr⟩ := hrel
    have HR := Lib.hid hr
    clear hr p0 p2 p4
    by_cases hlt : k < kl
    · obtain ⟨pre, hpl, hpm, hJk⟩ := HR.out.at'
      obtain ⟨⟨f, hf⟩, hb0⟩ := HND.out pre wr hJk
      have hk1 : k < T.kids.length := by rw [hkl.out]; exact hlt
      have hmem := List.getElem_mem hk1
      have c1 : wr.cell? ⟨bt, 0, none⟩ = some (.pointer (some ⟨b, off, none⟩)) := HR.out.kp.cell HNE.out.1 HBT.out.cell
      have c2 : wr.cell? ⟨bw, 0, none⟩ = some (.pointer (some ⟨wb, 0, none⟩)) := HR.out.kp.cell HNE.out.2 HBW.out.cell
      have q4 := (HC.out.below hb0 HC.out.lt).c4
      dsimp only at q4
      obtain ⟨U, hc, hnu⟩ := HKD.out.cells
      obtain ⟨kb, ko, hka, hkb, hcell⟩ := hc (by omega)
      rw [hka] at q4
      have HCALL := Lib.hid (HI.out _ hmem w0 (U k) kb (ko + k * 5) wb f wr.drew (hnu k hk1) (hcell k hlt) (HF.out _ hmem).1 (HF.out _ hmem).2 hb0.drew HWB.out hf)
      have HPX := Lib.hid (HPK.out k hk1)
      generalize hK : T.kids[k] = KT at *
      have HPR := Lib.hid (And.intro hpl hpm)
      have HJK := Lib.hid (show J pre wr.drew from HJ.out _ _ _ hJk ⟨rfl, rfl, rfl, Nat.le_refl _, fun _ _ _ => rfl⟩)
      have HF0 := Lib.hid (show Boxed wr.drew wb 57 (.bool f) from hf)
      clear hc hnu hcell hka hkb hK hmem hpl hpm hJk hb0 hf hk1
      gi_wp2_with fail
      refine wpIn_region_any (by kernel_rfl) ?_
      try (change wpAnyIn _ _ _ _ _ _ _ _ _ (World.drew _))
      simp only [List.size_toArray, List.length_cons, List.length_nil, Nat.reduceAdd, Array.replicate_succ, Array.replicate_zero, List.push_toArray, List.append_toArray, List.nil_append, List.cons_append]
      refine' wpAnyIn_take (i := 0) (oi := _) (v := _) rfl rfl (by kernel_rfl) (by kernel_rfl) (by kernel_rfl) (fun _ _ _ h => h) ⟨Or.inl ⟨?_, ?_⟩, fun _ => rfl⟩ ?_
      rotate_left
      all_goals (try simp only [List.getElem_toArray, List.getElem_cons_succ, List.getElem_cons_zero])
      · first | kernel_rfl | rfl
      · intro W; go_simp; (try with_reducible rfl)
      try simp only [Act.put, List.setIfInBounds_toArray, List.set_cons_zero, List.set_cons_succ]
      refine' wpAnyIn_take (i := 6) (oi := _) (v := _) rfl rfl (by kernel_rfl) (by kernel_rfl) (by kernel_rfl) (fun _ _ _ h => h) ⟨Or.inl ⟨?_, ?_⟩, fun _ => rfl⟩ ?_
      rotate_left
      all_goals (try simp only [List.getElem_toArray, List.getElem_cons_succ, List.getElem_cons_zero])
      · first | kernel_rfl | rfl
      · intro W; go_simp; (try with_reducible rfl)
      try simp only [Act.put, List.setIfInBounds_toArray, List.set_cons_zero, List.set_cons_succ]
      apply cut_propE
      case f =>
        intro fin
        refine wpAnyIn_ready (rs := [1, 2]) (by kernel_rfl) (by simp) ?_
        refine AllReadyIn.cons (o := _) rfl (fun K hK => ?_) (AllReadyIn.cons (o := _) rfl (fun K hK => ?_) (AllReadyIn.nil))
        · skip
          try simp only [List.getElem_toArray, List.getElem_cons_succ, List.getElem_cons_zero]
          go_simp
          refine hK _ _ ?_
          clear hK K
          try simp only [Act.put, List.setIfInBounds_toArray, List.set_cons_zero, List.set_cons_succ]
          refine wpAnyIn_ready (rs := [2]) (by kernel_rfl) (by simp) ?_
          refine AllReadyIn.cons (o := _) rfl (fun K hK => ?_) (AllReadyIn.nil)
          try simp only [List.getElem_toArray, List.getElem_cons_succ, List.getElem_cons_zero]
          go_simp
          refine hK _ _ ?_
          clear hK K
          try simp only [Act.put, List.setIfInBounds_toArray, List.set_cons_zero, List.set_cons_succ]
          refine' wpAnyIn_take (i := 3) (oi := _) (v := _) rfl rfl (by kernel_rfl) (by kernel_rfl) (by kernel_rfl) (fun _ _ _ h => h) ⟨Or.inl ⟨?_, ?_⟩, fun _ => rfl⟩ ?_
          rotate_left
          all_goals (try simp only [List.getElem_toArray, List.getElem_cons_succ, List.getElem_cons_zero])
          · first | kernel_rfl | rfl
          · intro W; go_simp; (try with_reducible rfl)
          try simp only [Act.put, List.setIfInBounds_toArray, List.set_cons_zero, List.set_cons_succ]
          refine' wpAnyIn_take (i := 4) (oi := _) (v := _) rfl rfl (by kernel_rfl) (by kernel_rfl) (by kernel_rfl) (fun _ _ _ h => h) ⟨Or.inl ⟨?_, ?_⟩, fun _ => rfl⟩ ?_
          rotate_left
          all_goals (try simp only [List.getElem_toArray, List.getElem_cons_succ, List.getElem_cons_zero])
          · first | kernel_rfl | rfl
          · intro W; go_simp; (try with_reducible rfl)
          try simp only [Act.put, List.setIfInBounds_toArray, List.set_cons_zero, List.set_cons_succ]
          refine wpAnyIn_ready (rs := [5]) (by kernel_rfl) (by simp) ?_
          refine AllReadyIn.cons (o := _) rfl (fun K hK => ?_) (AllReadyIn.nil)
          try simp only [List.getElem_toArray, List.getElem_cons_succ, List.getElem_cons_zero]
          go_simp
          refine hK _ _ ?_
          clear hK K
          try simp only [Act.put, List.setIfInBounds_toArray, List.set_cons_zero, List.set_cons_succ]
          refine' wpAnyIn_take (i := 7) (oi := _) (v := _) rfl rfl (by kernel_rfl) (by kernel_rfl) (by kernel_rfl) (fun _ _ _ h => h) ⟨Or.inl ⟨?_, ?_⟩, fun _ => rfl⟩ ?_
          rotate_left
          all_goals (try simp only [List.getElem_toArray, List.getElem_cons_succ, List.getElem_cons_zero])
          · first | kernel_rfl | rfl
          · intro W; go_simp; (try with_reducible rfl)
          try simp only [Act.put, List.setIfInBounds_toArray, List.set_cons_zero, List.set_cons_succ]
          exact fin.out
        · skip
          try simp only [List.getElem_toArray, List.getElem_cons_succ, List.getElem_cons_zero]
          go_simp
          refine hK _ _ ?_
          clear hK K
          try simp only [Act.put, List.setIfInBounds_toArray, List.set_cons_zero, List.set_cons_succ]
          refine' wpAnyIn_take (i := 3) (oi := _) (v := _) rfl rfl (by kernel_rfl) (by kernel_rfl) (by kernel_rfl) (fun _ _ _ h => h) ⟨Or.inl ⟨?_, ?_⟩, fun _ => rfl⟩ ?_
          rotate_left
          all_goals (try simp only [List.getElem_toArray, List.getElem_cons_succ, List.getElem_cons_zero])
          · first | kernel_rfl | rfl
          · intro W; go_simp; (try with_reducible rfl)
          try simp only [Act.put, List.setIfInBounds_toArray, List.set_cons_zero, List.set_cons_succ]
          refine' wpAnyIn_take (i := 4) (oi := _) (v := _) rfl rfl (by kernel_rfl) (by kernel_rfl) (by kernel_rfl) (fun _ _ _ h => h) ⟨Or.inl ⟨?_, ?_⟩, fun _ => rfl⟩ ?_
          rotate_left
          all_goals (try simp only [List.getElem_toArray, List.getElem_cons_succ, List.getElem_cons_zero])
          · first | kernel_rfl | rfl
          · intro W; go_simp; (try with_reducible rfl)
          try simp only [Act.put, List.setIfInBounds_toArray, List.set_cons_zero, List.set_cons_succ]
          refine wpAnyIn_ready (rs := [1, 5]) (by kernel_rfl) (by simp) ?_
          refine AllReadyIn.cons (o := _) rfl (fun K hK => ?_) (AllReadyIn.cons (o := _) rfl (fun K hK => ?_) (AllReadyIn.nil))
          · skip
            try simp only [List.getElem_toArray, List.getElem_cons_succ, List.getElem_cons_zero]
            go_simp
            refine hK _ _ ?_
            clear hK K
            try simp only [Act.put, List.setIfInBounds_toArray, List.set_cons_zero, List.set_cons_succ]
            refine wpAnyIn_ready (rs := [5]) (by kernel_rfl) (by simp) ?_
            refine AllReadyIn.cons (o := _) rfl (fun K hK => ?_) (AllReadyIn.nil)
            try simp only [List.getElem_toArray, List.getElem_cons_succ, List.getElem_cons_zero]
            go_simp
            refine hK _ _ ?_
            clear hK K
            try simp only [Act.put, List.setIfInBounds_toArray, List.set_cons_zero, List.set_cons_succ]
            refine' wpAnyIn_take (i := 7) (oi := _) (v := _) rfl rfl (by kernel_rfl) (by kernel_rfl) (by kernel_rfl) (fun _ _ _ h => h) ⟨Or.inl ⟨?_, ?_⟩, fun _ => rfl⟩ ?_
            rotate_left
            all_goals (try simp only [List.getElem_toArray, List.getElem_cons_succ, List.getElem_cons_zero])
            · first | kernel_rfl | rfl
            · intro W; go_simp; (try with_reducible rfl)
            try simp only [Act.put, List.setIfInBounds_toArray, List.set_cons_zero, List.set_cons_succ]
            exact fin.out
          · skip
            try simp only [List.getElem_toArray, List.getElem_cons_succ, List.getElem_cons_zero]
            go_simp
            refine hK _ _ ?_
            clear hK K
            try simp only [Act.put, List.setIfInBounds_toArray, List.set_cons_zero, List.set_cons_succ]
            refine' wpAnyIn_take (i := 7) (oi := _) (v := _) rfl rfl (by kernel_rfl) (by kernel_rfl) (by kernel_rfl) (fun _ _ _ h => h) ⟨Or.inl ⟨?_, ?_⟩, fun _ => rfl⟩ ?_
            rotate_left
            all_goals (try simp only [List.getElem_toArray, List.getElem_cons_succ, List.getElem_cons_zero])
            · first | kernel_rfl | rfl
            · intro W; go_simp; (try with_reducible rfl)
            try simp only [Act.put, List.setIfInBounds_toArray, List.set_cons_zero, List.set_cons_succ]
            refine wpAnyIn_ready (rs := [1]) (by kernel_rfl) (by simp) ?_
            refine AllReadyIn.cons (o := _) rfl (fun K hK => ?_) (AllReadyIn.nil)
            try simp only [List.getElem_toArray, List.getElem_cons_succ, List.getElem_cons_zero]
            go_simp
            refine hK _ _ ?_
            clear hK K
            try simp only [Act.put, List.setIfInBounds_toArray, List.set_cons_zero, List.set_cons_succ]
            exact fin.out
      case x =>
        refine wpAnyIn_ready (rs := [8]) (by kernel_rfl) (by simp) ?_
        refine AllReadyIn.cons (o := _) rfl (fun K hK => ?_) (AllReadyIn.nil)
        try simp only [List.getElem_toArray, List.getElem_cons_succ, List.getElem_cons_zero]
        go_simp
        refine ⟨trivial, ?_⟩
        refine (callsIn_wide.2 HCALL.out).mono ?_
        rintro e w2 ⟨⟨v, rfl, ho⟩, hf2, hk2, hb2⟩
        obtain ⟨va, vc, rfl, hbt2, hva⟩ := ho.form
        have hmd : MadeP T w0.heap.size wb pre ⟨va, KT.der.length, vc, KT.der, KT.falls⟩ wr.drew w2 := by
          refine ⟨by rw [HPR.out.1]; exact HPX.out, hk2, hb2, hbt2, fun _ ad ha => .inl (hva ad ha).1, fun g hg => ?_⟩
          have e1 : g = f := by
            have h1 := hg.cell
            rw [HF0.out.cell] at h1
            simp only [Option.some.injEq, Value.bool.injEq] at h1
            exact h1.symm
          rw [e1]
          exact hf2
        have hlp : pre.length < (pcsT T).length := by rw [HPR.out.1, HPL.out, hkl.out]; exact hlt
        have hJ2 := HM.out pre _ wr.drew w2 hlp HJK.out hmd
        obtain ⟨fn, tmps, assign, body, hy, hR⟩ := HY.out pre _ w2 hlp hJ2
        dsimp only [encP] at hy
        have HRR := Lib.hid hR
        have HK2 := Lib.hid (show KpV (fun k => k = l ∨ E k) W w2 from HR.out.kp.trans ((show KpV (fun k => k = wb) wr w2 from hk2).mono fun k h => .inr (h ▸ HEW.out)))
        have HPX2 := Lib.hid (take_is (x := ⟨va, KT.der.length, vc, KT.der, KT.falls⟩) HPR.out.2 HPX.out)
        clear hR hJ2 hlp hmd ho hf2 hk2 hb2 hbt2 hva HCALL c1 c2 q4
        gi_wp2_with fail
        refine wpAnyIn_ready (rs := [9]) (by kernel_rfl) (by simp) ?_
        refine AllReadyIn.cons (o := _) rfl (fun K hK => ?_) (AllReadyIn.nil)
        try simp only [List.getElem_toArray, List.getElem_cons_succ, List.getElem_cons_zero]
        go_simp
        gi_wp2_with fail
        refine HRR.out.mono ?_
        rintro e W3 (⟨rfl, hJ3, hk3⟩ | ⟨rfl, hx3, hk3⟩)
        rotate_left
        · have HX3 := Lib.hid hx3
          clear hx3 hk3 hy
          gi_wp2_with fail
          try simp only [Act.put, List.setIfInBounds_toArray, List.set_cons_zero, List.set_cons_succ]
          refine' wpAnyIn_take (i := 10) (oi := _) (v := _) rfl rfl (by kernel_rfl) (by kernel_rfl) (by kernel_rfl) (fun _ _ _ h => h) ⟨Or.inl ⟨?_, ?_⟩, fun _ => rfl⟩ ?_
          rotate_left
          all_goals (try simp only [List.getElem_toArray, List.getElem_cons_succ, List.getElem_cons_zero])
          · first | kernel_rfl | rfl
          · intro W; go_simp; (try with_reducible rfl)
          try simp only [Act.put, List.setIfInBounds_toArray, List.set_cons_zero, List.set_cons_succ]
          refine wpAnyIn_done (by kernel_rfl) ?_ _
          gi_wp2_with fail
          refine bodyPost_ret (results_none rfl _ _ _) rfl ?_
          exact ⟨⟨_, rfl⟩, .inr ⟨_, trivial, HX3.out⟩⟩
        · have HJ3 := Lib.hid hJ3
          have HK3 := Lib.hid (HK2.out.trans hk3)
          clear hJ3 hk3 hy
          gi_wp2_with fail
          try simp only [Act.put, List.setIfInBounds_toArray, List.set_cons_zero, List.set_cons_succ]
          refine' wpAnyIn_take (i := 10) (oi := _) (v := _) rfl rfl (by kernel_rfl) (by kernel_rfl) (by kernel_rfl) (fun _ _ _ h => h) ⟨Or.inl ⟨?_, ?_⟩, fun _ => rfl⟩ ?_
          rotate_left
          all_goals (try simp only [List.getElem_toArray, List.getElem_cons_succ, List.getElem_cons_zero])
          · first | kernel_rfl | rfl
          · intro W; go_simp; (try with_reducible rfl)
          try simp only [Act.put, List.setIfInBounds_toArray, List.set_cons_zero, List.set_cons_succ]
          refine wpAnyIn_done (by kernel_rfl) ?_ _
          gi_wp2_with fail
          go_roundw
          case rel => exact ⟨k + 1, by omega, by go_num, ⟨_, by rw [List.length_append, HPR.out.1]; rfl, HPX2.out, HJ3.out⟩, HK3.out⟩
          case measure => simp [intOf]; omega
    · obtain rfl : k = kl := by omega
      clear hlt
      gi_wp2_with fail
      go_end0
      obtain ⟨pre, hpl, hpm, hJk⟩ := HR.out.at'
      exact ⟨⟨_, rfl⟩, .inl ⟨pre, by rw [hpm, List.take_of_length_le (by rw [HPL.out, hkl.out]; exact Nat.le_refl _)], hJk⟩⟩
theorem pieces_come (n : Nat) (hn : 1 ≤ n) (w0 : World) (V : NV) (T : Tr) (b off wb : Nat) (hnode : NodeAt w0 V T) (hcells : CellsAt w0 b off V) (hwt : T.wt ≤ 1000000) (hfine : T.fine) (hI : ∀ K ∈ T.kids, WrOk K) (hwb : w0.heap.size ≤ wb) (bt bw : Nat) (w : World)
    (hbt : Boxed w bt 59 (.pointer (some ⟨b, off, none⟩))) (hbw : Boxed w bw 74 (.pointer (some ⟨wb, 0, none⟩))) (E : Nat → Prop) (hEw : E wb) (hE : ¬ E bt ∧ ¬ E bw) (hbelow : Below w0.heap.size w0 w) :
    SeqP (pcsT T).length (MadeP T w0.heap.size wb) (NdP w0 wb) E Fence.wide n Tryd.prog 61 #[.pointer (some ⟨bt, 0, none⟩), .pointer (some ⟨bw, 0, none⟩)] encP (fun xs => xs.map Pc.is = pcsT T) (fun _ => True) w := by
  cases hk : T.cons with
  | false => exact pieces_one n hn w0 V T b off wb hnode hcells hk hwt bt bw w hbt E hbelow
  | true => exact pieces_many n hn w0 V T b off wb hnode hcells hk hwt hfine hI hwb bt bw w hbt hbw E hEw hE hbelow

end Go.Proofs.YtkmphiakciihfaaDoor
end

namespace Go.Proofs.YtkmphiakciihfaaDoor
open Go.RowKit

/-- 'append(s, x...)' in a round: s is the call's own, x reads as bytes: nil, empty or not. -/
theorem wpListIn_append_bts {F : Fence} {nF : Nat} {P : Program} (w : World) {ops : Array Oper} {rest : List Oper} {o : Oper} {a : Act} {Q : Exit → Act → World → Prop} (hgd : o.guard = .none) (s x : Operand) (t : TypeId)
    (ho : o.op = .call { callee := .builtin .append, args := #[s, x], argTypes := #[t, t] })
    (B E : Nat) (i : TypeInfo) (ht : P.underlying t = some (.slice E)) (hi : P.info? E = some i) (hz : i.zero = some (.int .u8 0)) (hsize : i.size = 1) (hby : i.bytes = 1)
    (v : Value) (l : List UInt8) (hs : a.eval s = v) (hown : Own8 E B w v l) (ao : Option Addr) (m c : Nat) (l2 : List UInt8) (hx : a.eval x = .slice ao m c) (hb : Bts w ao m c l2)
    (hsum : l.length + m ≤ 140737488355328) (hbase : B ≤ w.heap.size)
    (h : ∀ v' w', Own8 E B w' v' (l ++ l2) → w.grownBy w' v.ownBlock → (v'.ownBlock = v.ownBlock ∨ v'.ownBlock = some w.heap.size) → wpListIn F nF P ops Q rest (a.put o.dst v') w') : wpListIn F nF P ops Q (o :: rest) a w := by
  have hlen := hb.length
  cases ao with
  | some ad =>
    refine wpListIn_append_own_at w hgd s x t ho B E i (.int .u8 0) 1 1 ht hi hz hsize hby rfl (by decide) v l.length (l.map byt) hs hown ad m c (l2.map byt) hx (by simpa using hlen) hb.news (byts_oneCell _) (by unfold maxLen; omega) (by omega) hbase ?_
    intro v' w' ho' hg _ hat
    refine h v' w' ?_ hg hat
    unfold Own8
    rw [List.map_append, List.length_append, hlen]
    exact ho'
  | none =>
    have hc := hb.nil rfl
    have hle := hb.le
    obtain rfl : m = 0 := by omega
    obtain rfl : l2 = [] := List.eq_nil_of_length_eq_zero hlen
    subst hc
    refine wpListIn_plain hgd fun K hK' => ?_
    have hrun := run_append_owned_none (P := P) w B t o.type E i 1 ht hi v l.length (l.map byt) hown
    unfold Oper.wpIn
    refine ⟨by simp [Oper.about, ho, resolve, Target.leads, Sem.run_pure], ?_⟩
    rw [Oper.semAt_plain F _ _ (by rw [ho]; intro c hc'; cases hc')]
    simp [execOp, ho, resolve, invoke, builtin, hs, hx, hrun, Result.andThen]
    exact hK' _ _ (by simpa using h v w (by simpa using hown) ⟨rfl, rfl, rfl, Nat.le_refl _, fun _ _ _ => rfl⟩ (.inl rfl))

theorem Own8.keptD {E B : Nat} {W W' : World} {row : Option Nat} {v : Value} {l : List UInt8} (h : Own8 E B W v l) (hg : W.grownBy W' row) (hr : ∀ r, row = some r → ∃ o : Obj, W.heap[r]? = some o ∧ o.isCells = false) : Own8 E B W' v l := by
  refine World.ownsRow.kept h hg ?_
  rcases h.2 with ⟨rfl, _⟩ | ⟨g, cap, cur, rfl, _, hgb, _⟩
  · exact .inl rfl
  · refine .inr fun e' => ?_
    obtain ⟨o, ho, hc⟩ := hr g (by simpa [Value.ownBlock] using e'.symm)
    rw [hgb] at ho; cases ho; cases hc
theorem boxed_keptD {W W' : World} {row : Option Nat} {B : Nat} {t : TypeId} {v : Value} (h : Boxed W B t v) (hg : W.grownBy W' row) (hr : ∀ r, row = some r → ∃ o : Obj, W.heap[r]? = some o ∧ o.isCells = false) : Boxed W' B t v :=
  h.kept hg fun e => by
    obtain ⟨o, ho, hc⟩ := hr B e.symm
    rw [show W.heap[B]? = _ from h] at ho; cases ho; cases hc
theorem Bts.heap {W W' : World} {a : Option Addr} {n c : Nat} {l : List UInt8} (h : Bts W a n c l) (hs : W.heap.size ≤ W'.heap.size) (hh : 0 < n → ∀ ad, a = some ad → W'.heap[ad.block]? = W.heap[ad.block]?) : Bts W' a n c l :=
  ⟨h.length, h.le, h.max, h.nil, fun hp => by
    obtain ⟨b, off, rfl, hlt, hc⟩ := h.cells hp
    exact ⟨b, off, rfl, Nat.lt_of_lt_of_le hlt hs, fun i hi => (World.cell?_of_block (a := ⟨b, off + i, .none⟩) (hh hp ⟨b, off, .none⟩ rfl)).trans (hc i hi)⟩⟩
theorem Bts.block {W : World} {a : Option Addr} {n c : Nat} {l : List UInt8} (h : Bts W a n c l) (hp : 0 < n) : ∀ ad, a = some ad → ad.block < W.heap.size := fun ad e => by
  obtain ⟨b, off, rfl, hlt, -⟩ := h.cells hp
  cases e; exact hlt
/-- What reads as bytes lies in no box but one of a byte. -/
theorem Bts.ne_box {W : World} {a : Option Addr} {n c b : Nat} {l : List UInt8} {t : TypeId} {v : Value} (h : Bts W a n c l) (hp : 0 < n) (hb : Boxed W b t v) (hv : ∀ x, v ≠ .int .u8 x) : ∀ ad, a = some ad → ad.block ≠ b := fun ad e eb => by
  obtain ⟨b', off, rfl, hlt, hc⟩ := h.cells hp
  cases e
  subst eb
  have h0 := hc 0 hp
  rw [Nat.add_zero] at h0
  simp only [World.cell?, show W.heap[b']? = _ from hb] at h0
  cases off with
  | zero =>
    simp at h0
    exact hv _ h0
  | succ k => simp at h0
theorem Bts.keptD {W W' : World} {row : Option Nat} {a : Option Addr} {n c : Nat} {l : List UInt8} (h : Bts W a n c l) (hg : W.grownBy W' row) (hr : ∀ r, row = some r → ∃ o : Obj, W.heap[r]? = some o ∧ o.isCells = false) : Bts W' a n c l :=
  h.heap hg.size fun hp ad e => hg.block _ (h.block hp ad e) fun er => by
    obtain ⟨o, ho, hc⟩ := hr _ er.symm
    obtain ⟨b', off, rfl, hlt, hc'⟩ := h.cells hp
    cases e
    have h0 := hc' 0 hp
    cases o with
    | cells _ _ _ => cases hc
    | _ => simp [World.cell?, show W.heap[b']? = _ from ho] at h0
theorem own8_ne_box {E B b t : Nat} {W : World} {v u : Value} {l : List UInt8} (h : Own8 E B W v l) (hb : Boxed W b t u) (hne : t ≠ E) : v.ownBlock ≠ some b := by
  rcases h.2 with ⟨rfl, _⟩ | ⟨g, cap, cur, rfl, _, hgb, _⟩
  · simp [Value.ownBlock]
  · intro e
    obtain rfl : g = b := by simpa [Value.ownBlock] using e
    rw [show W.heap[g]? = _ from hb] at hgb
    simp only [Option.some.injEq, Obj.cells.injEq] at hgb
    exact hne hgb.2.1
theorem own8_range {E B : Nat} {W : World} {v : Value} {l : List UInt8} (h : Own8 E B W v l) {b : Nat} (hb : v.ownBlock = some b) : B ≤ b ∧ b < W.heap.size := by
  rcases h.2 with ⟨rfl, _⟩ | ⟨g, cap, cur, rfl, hB, hgb, _⟩
  · simp [Value.ownBlock] at hb
  · obtain rfl : g = b := by simpa [Value.ownBlock] using hb
    exact ⟨hB, (Array.getElem?_eq_some_iff.1 hgb).1⟩
theorem Own8.heap {E B : Nat} {W W' : World} {v : Value} {l : List UInt8} (h : Own8 E B W v l) (hh : ∀ b, v.ownBlock = some b → W'.heap[b]? = W.heap[b]?) : Own8 E B W' v l := by
  obtain ⟨h1, h2⟩ := h
  refine ⟨h1, ?_⟩
  rcases h2 with h2 | ⟨g, cap, cur, rfl, hB, hg, r⟩
  · exact .inl h2
  · exact .inr ⟨g, cap, cur, rfl, hB, (hh g rfl).trans hg, r⟩
theorem Own8.others {E B : Nat} {W W' : World} {v : Value} {l : List UInt8} (h : Own8 E B W v l) (hg : W.grownBy W' v.ownBlock) : KeepsOthers W W' :=
  KeepsOthers.of_grownBy hg fun j o ej hj => by
    rcases h.2 with ⟨rfl, _⟩ | ⟨g, cap, cur, rfl, _, hgb, _⟩
    · simp [Value.ownBlock] at ej
    · obtain rfl : g = j := by simpa [Value.ownBlock] using ej
      rw [hgb] at hj; cases hj; rfl

/-- The blocks of a call: A: the world's size when it began; wb: the writer's; bO, bw, bt: ordered, pieces' two. -/
structure BcK (Z A wb bO bw bt : Nat) : Prop where
  z : Z ≤ wb
  wb : wb < A
  o : A + 2 < bO
  w : bO < bw
  t : bt = bw + 1

/-- Between two rounds. -/
structure BcS (w0 wE : World) (A wb bO bw bt b off : Nat) (ord : Bool) (v : Value) (L : List UInt8) (aa : Option Addr) (an ac : Nat) (al : List UInt8) (g : Bool) (W : World) : Prop where
  hv : Boxed W (A + 1) 22 v
  own : Own8 5 A W v L
  ha : Boxed W (A + 2) 22 (.slice aa an ac)
  bts : Bts W aa an ac al
  apart : 0 < an → ∀ ad, aa = some ad → v.ownBlock ≠ some ad.block
  ho : Boxed W bO 4 (.bool ord)
  hp : Boxed W A 74 (.pointer (some ⟨wb, 0, none⟩))
  ht : Boxed W bt 59 (.pointer (some ⟨b, off, none⟩))
  hw : Boxed W bw 74 (.pointer (some ⟨wb, 0, none⟩))
  cell : Boxed W wb 57 (.bool g)
  below : Below w0.heap.size w0 W
  kp : KpV (fun k => k = wb) wE W

variable {w0 wE : World} {A wb bO bw bt b off : Nat} {ord : Bool} {v : Value} {L : List UInt8} {aa : Option Addr} {an ac : Nat} {al : List UInt8} {g : Bool} {W : World}

theorem BcS.stays {B : Nat} (h : BcS w0 wE A wb bO bw bt b off ord v L aa an ac al g W) {W' : World} {row : Option Nat} (hg : W.grownBy W' row) (hB : w0.heap.size ≤ B) (hB2 : wE.heap.size ≤ B) (hr : ∀ r, row = some r → B ≤ r ∧ ∃ o : Obj, W.heap[r]? = some o ∧ o.isCells = false) :
    BcS w0 wE A wb bO bw bt b off ord v L aa an ac al g W' :=
  have hr2 := fun r e => (hr r e).2
  ⟨boxed_keptD h.hv hg hr2, h.own.keptD hg hr2, boxed_keptD h.ha hg hr2, h.bts.keptD hg hr2, h.apart, boxed_keptD h.ho hg hr2, boxed_keptD h.hp hg hr2, boxed_keptD h.ht hg hr2, boxed_keptD h.hw hg hr2, boxed_keptD h.cell hg hr2,
    h.below.grown hg h.below.size (fun r e => by have := (hr r e).1; omega), ⟨Nat.le_trans h.kp.1 hg.size, fun k hk hn => (hg.block k (Nat.lt_of_lt_of_le hk h.kp.1) fun e => by have := (hr k e.symm).1; omega).trans (h.kp.2 k hk hn)⟩⟩

/-- Behind the making of a piece. -/
theorem BcS.made (hK : BcK w0.heap.size A wb bO bw bt) (h : BcS w0 wE A wb bO bw bt b off ord v L aa an ac al g W) {T : Tr} {pre : List Pc} {x : Pc} {W' : World} (hm : MadeP T w0.heap.size wb pre x W W') :
    BcS w0 wE A wb bO bw bt b off ord v L aa an ac al (g || x.f) W' ∧ (0 < x.n → ∀ ad, x.a = some ad → v.ownBlock ≠ some ad.block) := by
  have bx : ∀ {k : Nat} {t : TypeId} {u : Value}, Boxed W k t u → k ≠ wb → Boxed W' k t u := fun hb hn => (hm.kp.2 _ hb.lt hn).trans hb
  have k1 := hK.wb
  have k2 := hK.o
  have k3 := hK.w
  have k4 := hK.t
  refine ⟨⟨bx h.hv (by omega), h.own.heap fun b' e => hm.kp.2 b' (own8_range h.own e).2 (by have := (own8_range h.own e).1; show ¬ b' = wb; omega), bx h.ha (by omega), ?_, h.apart, bx h.ho (by omega), bx h.hp (by omega), bx h.ht (by omega), bx h.hw (by omega), hm.cell _ h.cell,
    h.below.trans hm.below, h.kp.trans hm.kp⟩, fun hp ad e e2 => ?_⟩
  · exact h.bts.heap hm.kp.1 fun hp ad e => hm.kp.2 _ (h.bts.block hp ad e) (h.bts.ne_box hp h.cell (fun _ => by intro e; cases e) ad e)
  · have h1 := own8_range h.own e2
    have h2 := hK.z
    rcases hm.new hp ad e with h3 | h3 <;> omega

/-- Behind the append of a piece and its store. -/
theorem BcS.app (hK : BcK w0.heap.size A wb bO bw bt) (h : BcS w0 wE A wb bO bw bt b off ord v L aa an ac al g W) (hE : wE.heap.size = A) {pa : Option Addr} {pn pc : Nat} {pl : List UInt8} (hb : Bts W pa pn pc pl) (hap : 0 < pn → ∀ ad, pa = some ad → v.ownBlock ≠ some ad.block)
    {W' : World} {v' : Value} (ho : Own8 5 A W' v' (L ++ pl)) (hg : W.grownBy W' v.ownBlock) (hat : v'.ownBlock = v.ownBlock ∨ v'.ownBlock = some W.heap.size) :
    Boxed W' (A + 1) 22 v ∧ BcS w0 wE A wb bO bw bt b off ord v' (L ++ pl) aa an ac al g (W'.setCell ⟨A + 1, 0, none⟩ v') ∧ Bts (W'.setCell ⟨A + 1, 0, none⟩ v') pa pn pc pl ∧ (0 < pn → ∀ ad, pa = some ad → v'.ownBlock ≠ some ad.block) ∧ KeepsOthers W (W'.setCell ⟨A + 1, 0, none⟩ v') := by
  have k1 := hK.wb
  have k2 := hK.o
  have k3 := hK.w
  have k4 := hK.t
  have k5 := hK.z
  have bx : ∀ {k : Nat} {t : TypeId} {u : Value}, Boxed W k t u → t ≠ 5 → Boxed W' k t u := fun hb hn => hb.kept hg fun e => own8_ne_box h.own hb hn e.symm
  have b1 := bx h.hv (by decide)
  have st : ∀ {k : Nat} {t : TypeId} {u : Value}, Boxed W k t u → t ≠ 5 → k ≠ A + 1 → Boxed (W'.setCell ⟨A + 1, 0, none⟩ v') k t u := fun hb hn hk => Boxed.other (bx hb hn) hk v'
  have hhs : ∀ k, k ≠ A + 1 → (W'.setCell ⟨A + 1, 0, none⟩ v').heap[k]? = W'.heap[k]? := fun k hk => Below.heap_setCell _ ⟨A + 1, 0, none⟩ _ _ hk
  have hne1 := own8_ne_box ho b1 (by decide)
  have hsz : W'.heap.size ≤ (W'.setCell ⟨A + 1, 0, none⟩ v').heap.size := by simp [World.setCell]
  have hbt : ∀ {a : Option Addr} {n c : Nat} {l : List UInt8}, Bts W a n c l → (0 < n → ∀ ad, a = some ad → v.ownBlock ≠ some ad.block) → Bts (W'.setCell ⟨A + 1, 0, none⟩ v') a n c l := fun hb hap =>
    hb.heap (Nat.le_trans hg.size hsz) fun hp ad e => (hhs _ (hb.ne_box hp h.hv (fun x e => by
      have h1 := h.own.form
      obtain ⟨_, _, rfl, -⟩ := h1
      cases e) ad e)).trans (hg.block _ (hb.block hp ad e) fun e2 => hap hp ad e e2.symm)
  have hap2 : ∀ {a : Option Addr} {n c : Nat} {l : List UInt8}, Bts W a n c l → (0 < n → ∀ ad, a = some ad → v.ownBlock ≠ some ad.block) → 0 < n → ∀ ad, a = some ad → v'.ownBlock ≠ some ad.block := fun hb hap hp ad e e2 => by
    rcases hat with h1 | h1
    · rw [h1] at e2; exact hap hp ad e e2
    · rw [h1] at e2
      have h3 := hb.block hp ad e
      have h4 := Option.some.inj e2
      omega
  refine ⟨b1, ⟨b1.set v', ho.heap fun k e => hhs k (fun e2 => hne1 (by rw [e, e2])), st h.ha (by decide) (by omega), hbt h.bts h.apart, hap2 h.bts h.apart, st h.ho (by decide) (by omega), st h.hp (by decide) (by omega), st h.ht (by decide) (by omega), st h.hw (by decide) (by omega), st h.cell (by decide) (by omega), ?_, ?_⟩, hbt hb hap, hap2 hb hap, (h.own.others hg).trans (KeepsOthers.setCell _ _ _)⟩
  · exact (h.below.grown hg h.below.size fun k e => by have := (own8_range h.own e).1; omega).setCell (p := ⟨A + 1, 0, none⟩) (by show w0.heap.size ≤ A + 1; omega) _
  · refine ⟨Nat.le_trans h.kp.1 (Nat.le_trans hg.size hsz), fun k hk hn => ((hhs k (by omega)).trans (hg.block k (Nat.lt_of_lt_of_le hk h.kp.1) fun e => ?_)).trans (h.kp.2 k hk hn)⟩
    have := (own8_range h.own e.symm).1
    omega

/-- Behind the store to the writer. -/
theorem BcS.fell (hK : BcK w0.heap.size A wb bO bw bt) (h : BcS w0 wE A wb bO bw bt b off ord v L aa an ac al g W) :
    BcS w0 wE A wb bO bw bt b off ord v L aa an ac al true (W.setCell ⟨wb, 0, none⟩ (.bool true)) := by
  have k1 := hK.wb
  have k2 := hK.o
  have k3 := hK.w
  have k4 := hK.t
  have hhs : ∀ k, k ≠ wb → (W.setCell ⟨wb, 0, none⟩ (.bool true)).heap[k]? = W.heap[k]? := fun k hk => Below.heap_setCell _ ⟨wb, 0, none⟩ _ _ hk
  have st : ∀ {k : Nat} {t : TypeId} {u : Value}, Boxed W k t u → k ≠ wb → Boxed (W.setCell ⟨wb, 0, none⟩ (.bool true)) k t u := fun hb hk => Boxed.other hb hk _
  refine ⟨st h.hv (by omega), h.own.heap fun k e => hhs k (by have := (own8_range h.own e).1; omega), st h.ha (by omega), h.bts.heap (by simp [World.setCell]) fun hp ad e => hhs _ (h.bts.ne_box hp h.cell (fun _ => by intro e; cases e) ad e), h.apart, st h.ho (by omega), st h.hp (by omega), st h.ht (by omega), st h.hw (by omega), h.cell.set _,
    h.below.setCell (p := ⟨wb, 0, none⟩) hK.z _, ⟨Nat.le_trans h.kp.1 (by simp [World.setCell]), fun k hk hn => (hhs k hn).trans (h.kp.2 k hk hn)⟩⟩

/-- Behind the store of what stood ahead. -/
theorem BcS.next (hK : BcK w0.heap.size A wb bO bw bt) (h : BcS w0 wE A wb bO bw bt b off ord v L aa an ac al g W) (hE : wE.heap.size = A) {pa : Option Addr} {pn pc : Nat} {pl : List UInt8} (hb : Bts W pa pn pc pl) (hap : 0 < pn → ∀ ad, pa = some ad → v.ownBlock ≠ some ad.block) :
    BcS w0 wE A wb bO bw bt b off ord v L pa pn pc pl g (W.setCell ⟨A + 2, 0, none⟩ (.slice pa pn pc)) := by
  have k1 := hK.wb
  have k2 := hK.o
  have k3 := hK.w
  have k4 := hK.t
  have k5 := hK.z
  have hhs : ∀ k, k ≠ A + 2 → (W.setCell ⟨A + 2, 0, none⟩ (.slice pa pn pc)).heap[k]? = W.heap[k]? := fun k hk => Below.heap_setCell _ ⟨A + 2, 0, none⟩ _ _ hk
  have st : ∀ {k : Nat} {t : TypeId} {u : Value}, Boxed W k t u → k ≠ A + 2 → Boxed (W.setCell ⟨A + 2, 0, none⟩ (.slice pa pn pc)) k t u := fun hb hk => Boxed.other hb hk _
  have hne := own8_ne_box h.own h.ha (by decide)
  refine ⟨st h.hv (by omega), h.own.heap fun k e => hhs k (fun e2 => hne (by rw [e, e2])), h.ha.set _, hb.heap (by simp [World.setCell]) fun hp ad e => hhs _ (hb.ne_box hp h.ha (fun _ => by intro e; cases e) ad e), hap, st h.ho (by omega), st h.hp (by omega), st h.ht (by omega), st h.hw (by omega), st h.cell (by omega),
    h.below.setCell (p := ⟨A + 2, 0, none⟩) (by show w0.heap.size ≤ A + 2; omega) _, ⟨Nat.le_trans h.kp.1 (by simp [World.setCell]), fun k hk hn => (hhs k (by omega)).trans (h.kp.2 k hk hn)⟩⟩

/-- What a round has to keep for the iterator. -/
theorem BcS.keeps {v2 : Value} {L2 : List UInt8} {aa2 : Option Addr} {an2 ac2 : Nat} {al2 : List UInt8} {g2 : Bool} {W2 : World} (h : BcS w0 wE A wb bO bw bt b off ord v L aa an ac al g W) (h2 : BcS w0 wE A wb bO bw bt b off ord v2 L2 aa2 an2 ac2 al2 g2 W2) (hs : W.heap.size ≤ W2.heap.size) :
    KpV (fun k => k ≠ bt ∧ k ≠ bw) W W2 :=
  ⟨hs, fun k hk hn => by
    by_cases e : k = bt
    · subst e; exact (show W2.heap[k]? = _ from h2.ht).trans (show W.heap[k]? = _ from h.ht).symm
    · have e2 : k = bw := Classical.byContradiction fun e2 => hn ⟨e, e2⟩
      subst e2; exact (show W2.heap[k]? = _ from h2.hw).trans (show W.heap[k]? = _ from h.hw).symm⟩

end Go.Proofs.YtkmphiakciihfaaDoor
