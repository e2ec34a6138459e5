/-
  Texts of ours, one behind the other: DeI DeN DeJ
-/
import Derived.Test.YtkmphiakciihfaaDoorDeH
import Derived.Test.YtkmphiakciihfaaDoorTrU
import Derived.SizedLaws
import Derived.Test.YtkmphiakciihfaaDoorTrT
import Derived.BigQuiet
import Derived.Deep.QuietTactic

namespace Go.Proofs.YtkmphiakciihfaaDoor
open Go.RowKit

theorem dSizR_fine {T : Tr} (h : (dSizR T).2 = 0) : (wrongR qV T).1 = 0 ∧ T.fine ∧ T.dsiz ≤ 65536 ∧ (dSizR T).1 = (T.dsiz : Int) := by
  unfold dSizR at h ⊢
  by_cases h1 : (wrongR qV T).1 = 0
  · rw [if_pos h1] at h ⊢
    by_cases h2 : 65536 < T.dsiz
    · rw [if_pos h2] at h; cases h
    · rw [if_neg h2]
      exact ⟨h1, fine_of qV T h1, by omega, rfl⟩
  · rw [if_neg h1] at h; cases h

set_option maxHeartbeats 2000000 in
theorem dEnc_any (V : NV) (T : Tr) (w : World) (hn : NodeAt w V T) (hw : T.wt ≤ 1000000) (hN : T.cnt ≤ 1000000) (hd : T.dep ≤ 1000000) (hl : Tabs w) :
    Calls Tryd.prog 11 #[V.agg] w fun e w' => RetsOwn2 w.heap.size w' (dEncR T) e ∧ Below w.heap.size w w' := by
  obtain ⟨c, t, kk, ba, bl, bc, ka, kl, kc⟩ := V
  obtain ⟨w1, hw1⟩ : ∃ w1, w.alloc (.cells #[.int .i64 c, .int .i64 t, .bool kk, .slice ba bl bc, .slice ka kl kc] 25) = w1 := ⟨_, rfl⟩
  have hb1 : Below w.heap.size w w1 := by rw [← hw1]; exact (Below.refl _ _).alloc (Nat.le_refl _) _
  have hcx : CellsAt w1 w.heap.size 0 ⟨c, t, kk, ba, bl, bc, ka, kl, kc⟩ := by rw [← hw1]; exact cells5 w c t kk ba bl bc ka kl kc _
  have HSZ := Lib.hid (dSize_any ⟨c, t, kk, ba, bl, bc, ka, kl, kc⟩ T w1 (hn.under hb1) hw hN hd (tabs_below hl hb1))
  have HB1 := Lib.hid hb1
  have HN := Lib.hid (hn.under hb1)
  have HC := Lib.hid hcx
  have HW := Lib.hid hw
  have HR := Lib.hid (show dEncR T = if (dSizR T).2 = 0 then (if T.falls then ([], 121) else (T.der, 0)) else ([], (dSizR T).2) from rfl)
  have HF := Lib.hid (fun h => (dSizR_fine (T := T) h).2.1)
  obtain ⟨p0, p1, p2, p3, p4⟩ := hcx
  dsimp only at p0 p1 p2 p3 p4
  simp only [Nat.zero_add] at p0 p1 p2 p3 p4
  generalize dEncR T = R at *
  obtain ⟨s, hs⟩ : ∃ s, dSizR T = s := ⟨_, rfl⟩
  rw [hs] at HSZ HR HF
  obtain ⟨s1, s2⟩ := s
  dsimp only at HSZ HR HF
  clear hn hb1 hl hw hs
  unfold NV.agg at HSZ ⊢
  dsimp only at HSZ ⊢
  by_cases h2 : s2 = 0
  · subst h2
    rw [if_pos rfl] at HR
    have HFF := Lib.hid (HF.out rfl)
    clear HF
    go_enter Tryd.func11, Tryd.ntmps11
    go_wp2_with fail
    clear hw1
    refine HSZ.out.mono ?_
    rintro e w2 ⟨rfl, hb2⟩
    have hn2 := HN.out.under hb2
    have hc2 := HC.out.below hb2 HC.out.lt
    have HBX := Boxed.new w2 57 (.bool false)
    have HWB := Lib.hid (wbytes_any T w2 ⟨c, t, kk, ba, bl, bc, ka, kl, kc⟩ w.heap.size 0 w2.heap.size false (w2.alloc (.cells #[.bool false] 57)) hn2 hc2 HFF.out HW.out ((Below.refl _ _).alloc (Nat.le_refl _) _) (Nat.le_refl _) HBX)
    have HB2 := Lib.hid (HB1.out.trans (hb2.mono HB1.out.size))
    have HBA := Lib.hid ((Below.refl w2.heap.size w2).alloc (Nat.le_refl _) (.cells #[.bool false] 57))
    clear hb2 hn2 hc2 HBX p0 p1 p2 p3 p4
    go_wp2_with fail
    refine HWB.out.mono ?_
    rintro e w3 ⟨⟨v, rfl, ho⟩, hx, -, hb3⟩
    rw [Bool.false_or] at hx
    have cx := hx.cell
    obtain ⟨va, vn, vc, rfl⟩ := own8_sl ho
    have HO := Lib.hid (ho.mono (show w.heap.size ≤ _ from Nat.le_trans HB2.out.size HBA.out.size))
    have HB3 := Lib.hid (HB2.out.trans ((HBA.out.trans hb3).mono HB2.out.size))
    clear ho hx hb3
    cases hf : T.falls with
    | true =>
      rw [hf] at cx HR
      rw [if_pos rfl] at HR
      go_wp2_with fail
      go_ret2
      rw [HR.out]
      exact ⟨⟨_, rfl, Own8.nil _ _ _⟩, HB3.out⟩
    | false =>
      rw [hf] at cx HR
      rw [if_neg (by decide)] at HR
      go_wp2_with fail
      go_ret2
      rw [HR.out]
      exact ⟨⟨_, rfl, HO.out⟩, HB3.out⟩
  · rw [if_neg h2] at HR
    have h3 : (s2 != 0) = true := by simpa using h2
    go_enter Tryd.func11, Tryd.ntmps11
    go_wp2_with fail
    clear hw1
    refine HSZ.out.mono ?_
    rintro e w2 ⟨rfl, hb2⟩
    have HB2 := Lib.hid (HB1.out.trans (hb2.mono HB1.out.size))
    clear hb2 p0 p1 p2 p3 p4
    go_wp2_with fail
    go_ret2
    rw [HR.out]
    exact ⟨⟨_, rfl, Own8.nil _ _ _⟩, HB2.out⟩

theorem dEncR_ok {T : Tr} (h : (dEncR T).2 = 0) : (dSizR T).2 = 0 ∧ T.falls = false ∧ (dEncR T).1 = T.der := by
  unfold dEncR at h ⊢
  by_cases h1 : (dSizR T).2 = 0
  · rw [if_pos h1] at h ⊢
    cases hf : T.falls with
    | true => rw [hf] at h; cases h
    | false => exact ⟨h1, rfl, rfl⟩
  · rw [if_neg h1] at h; exact absurd h h1

set_option maxHeartbeats 2000000 in
theorem dCmp_any (V U : NV) (T S : Tr) (w : World) (hn : NodeAt w V T) (hm : NodeAt w U S) (hw : T.wt ≤ 1000000) (hN : T.cnt ≤ 1000000) (hd : T.dep ≤ 1000000) (hw2 : S.wt ≤ 1000000) (hN2 : S.cnt ≤ 1000000) (hd2 : S.dep ≤ 1000000) (hl : Tabs w) :
    Calls Tryd.prog 20 #[V.agg, U.agg] w fun e w' => e = .returned (.tuple #[.int .i64 (dCmpR T S).1, .int .i64 (dCmpR T S).2]) ∧ Below w.heap.size w w' := by
  obtain ⟨c, t, kk, ba, bl, bc, ka, kl, kc⟩ := V
  obtain ⟨xc, xt, xk, xa, xl, xm, ya, yl, ym⟩ := U
  obtain ⟨w0, hw0⟩ : ∃ w0, w.alloc (.cells #[.int .i64 c, .int .i64 t, .bool kk, .slice ba bl bc, .slice ka kl kc] 25) = w0 := ⟨_, rfl⟩
  obtain ⟨w1, hw1⟩ : ∃ w1, w0.alloc (.cells #[.int .i64 xc, .int .i64 xt, .bool xk, .slice xa xl xm, .slice ya yl ym] 25) = w1 := ⟨_, rfl⟩
  have hz0 : w0.heap.size = w.heap.size + 1 := by rw [← hw0]; simp
  have hb0 : Below w.heap.size w w0 := by rw [← hw0]; exact (Below.refl _ _).alloc (Nat.le_refl _) _
  have hb01 : Below w0.heap.size w0 w1 := by rw [← hw1]; exact (Below.refl _ _).alloc (Nat.le_refl _) _
  have hb1 : Below w.heap.size w w1 := hb0.trans (hb01.mono hb0.size)
  have hcx : CellsAt w1 w.heap.size 0 ⟨c, t, kk, ba, bl, bc, ka, kl, kc⟩ := CellsAt.below (by rw [← hw0]; exact cells5 w c t kk ba bl bc ka kl kc _) hb01 (by omega)
  have hcy : CellsAt w1 w0.heap.size 0 ⟨xc, xt, xk, xa, xl, xm, ya, yl, ym⟩ := by rw [← hw1]; exact cells5 w0 xc xt xk xa xl xm ya yl ym _
  have HE1 := Lib.hid (dEnc_any ⟨c, t, kk, ba, bl, bc, ka, kl, kc⟩ T w1 (hn.under hb1) hw hN hd (tabs_below hl hb1))
  have HE2 := Lib.hid (fun (W : World) (hB : Below w1.heap.size w1 W) => dEnc_any ⟨xc, xt, xk, xa, xl, xm, ya, yl, ym⟩ S W ((hm.under hb1).under hB) hw2 hN2 hd2 (tabs_below (tabs_below hl hb1) hB))
  have HCY := Lib.hid hcy
  have HB1 := Lib.hid hb1
  have HR := Lib.hid (show dCmpR T S = if (dEncR T).2 = 0 then (if (dEncR S).2 = 0 then (Lib.compareBytes (dEncR T).1 (dEncR S).1, 0) else (0, (dEncR S).2)) else (0, (dEncR T).2) by
    unfold dCmpR
    by_cases h1 : (dEncR T).2 = 0
    · rw [if_pos h1, if_pos h1]
      by_cases h2 : (dEncR S).2 = 0
      · rw [if_pos h2, if_pos h2, (dEncR_ok h1).2.2, (dEncR_ok h2).2.2]
      · rw [if_neg h2, if_neg h2]
    · rw [if_neg h1, if_neg h1])
  obtain ⟨p0, p1, p2, p3, p4⟩ := hcx
  dsimp only at p0 p1 p2 p3 p4
  simp only [Nat.zero_add] at p0 p1 p2 p3 p4
  generalize dCmpR T S = R at *
  generalize dEncR T = A at *
  generalize dEncR S = B at *
  obtain ⟨A1, A2⟩ := A
  obtain ⟨B1, B2⟩ := B
  dsimp only at HR
  clear hn hm hb0 hb01 hb1 hl hw hw2 hcy
  have HZ := Lib.hid hz0
  clear hz0
  unfold NV.agg at HE1 HE2 ⊢
  dsimp only at HE1 HE2 ⊢
  by_cases hA : A2 = 0
  · subst hA
    rw [if_pos rfl] at HR
    go_enter Tryd.func20, Tryd.ntmps20
    go_wp2_with fail
    clear hw0 hw1
    refine HE1.out.mono ?_
    rintro e w2 ⟨⟨v1, rfl, ho1⟩, hb2⟩
    obtain ⟨a1, n1, c1, rfl⟩ := own8_sl ho1
    obtain ⟨q0, q1, q2, q3, q4⟩ := HCY.out.below hb2 HCY.out.lt
    dsimp only at q0 q1 q2 q3 q4
    simp only [Nat.zero_add] at q0 q1 q2 q3 q4
    have HO1 := Lib.hid ho1
    have HB2 := Lib.hid hb2
    clear ho1 hb2 p0 p1 p2 p3 p4 HE1
    go_wp2_with fail
    refine (HE2.out w2 HB2.out).mono ?_
    rintro e w3 ⟨⟨v2, rfl, ho2⟩, hb3⟩
    obtain ⟨a2, n2, c2, rfl⟩ := own8_sl ho2
    have HO1 := Lib.hid (HO1.out.below hb3)
    have HO2 := Lib.hid ho2
    have HB3 := Lib.hid (HB1.out.trans ((HB2.out.trans (hb3.mono HB2.out.size)).mono HB1.out.size))
    clear ho2 hb3 q0 q1 q2 q3 q4
    by_cases hB : B2 = 0
    · subst hB
      rw [if_pos rfl] at HR
      go_wp2_with fail
      refine (ocmp_any a1 a2 n1 c1 n2 c2 A1 B1 w3 HO1.out.bts HO2.out.bts).mono ?_
      rintro e w4 ⟨rfl, rfl⟩
      generalize Lib.compareBytes A1 B1 = r at *
      go_wp2_with fail
      go_ret2
      exact ⟨by rw [HR.out]; rfl, HB3.out⟩
    · rw [if_neg hB] at HR
      have h3 : (B2 != 0) = true := by simpa using hB
      go_wp2_with fail
      go_ret2
      exact ⟨by rw [HR.out]; rfl, HB3.out⟩
  · rw [if_neg hA] at HR
    have h3 : (A2 != 0) = true := by simpa using hA
    go_enter Tryd.func20, Tryd.ntmps20
    go_wp2_with fail
    clear hw0 hw1
    refine HE1.out.mono ?_
    rintro e w2 ⟨⟨v1, rfl, ho1⟩, hb2⟩
    obtain ⟨a1, n1, c1, rfl⟩ := own8_sl ho1
    have HB2 := Lib.hid (HB1.out.trans (hb2.mono HB1.out.size))
    clear ho1 hb2 p0 p1 p2 p3 p4 HE1
    go_wp2_with fail
    go_ret2
    exact ⟨by rw [HR.out]; rfl, HB2.out⟩

end Go.Proofs.YtkmphiakciihfaaDoor

namespace Go.Proofs.YtkmphiakciihfaaDoor
open Go.RowKit

mutual
/-- No node's bytes are more than a machine may hold. -/
def Tr.lim : Tr → Prop | .mk _ _ _ l ks => l.length ≤ 140737488351232 ∧ limL ks
def limL : List Tr → Prop
  | [] => True
  | t :: ts => t.lim ∧ limL ts
end
theorem limL_iff (l : List Tr) : limL l ↔ ∀ t ∈ l, t.lim := by
  induction l with
  | nil => simp [limL]
  | cons t ts ih => simp [limL, ih]

section
variable {H : Type}
theorem elem_w {P : Program} {t e : TypeId} {elems spare : List (DataW H)} {i : Nat} {d : DataW H} {n : Nat} (hi : elems[i]? = some d) (hn : n ∈ d.weights P e) (hu : P.underlying t = some (.slice e) := by exact Tryd.underlying23) : n ∈ (DataW.slice elems spare).weights P t := by
  have h : ∀ (l : List (DataW H)) (i : Nat), l[i]? = some d → n ∈ DataW.weightsAll P e l := by
    intro l
    induction l with
    | nil => intro i h; simp at h
    | cons x xs ih =>
      intro i h
      simp only [DataW.weightsAll, List.mem_append]
      cases i with
      | zero => simp at h; subst h; exact .inl hn
      | succ i => exact .inr (ih i (by simpa using h))
  simp only [DataW.weights, hu, List.mem_cons, List.mem_append]
  exact .inr (.inl (h elems i hi))
theorem node_w3 {d0 d1 d2 d3 d4 : DataW H × List MemPlace} {n : Nat} (hn : n ∈ d3.1.weights Tryd.prog 22) : n ∈ (DataW.agg ([d0, d1, d2, d3, d4].map (·.1))).weights Tryd.prog 25 := by
  simp [DataW.weights, Tryd.underlying25, DataW.weightsEach]
  exact .inr (.inr (.inr (.inl hn)))
theorem node_w4 {d0 d1 d2 d3 d4 : DataW H × List MemPlace} {n : Nat} (hn : n ∈ d4.1.weights Tryd.prog 23) : n ∈ (DataW.agg ([d0, d1, d2, d3, d4].map (·.1))).weights Tryd.prog 25 := by
  simp [DataW.weights, Tryd.underlying25, DataW.weightsEach]
  exact .inr (.inr (.inr (.inr hn)))
end

theorem bytes_of_trodL {H : Type} {enc : TypeId × Value → H} {w : World} {n : Nat} {cs : List Value} {x : DataW H × List MemPlace} (h : DataW.trod enc Tryd.prog w 0 (fun _ => true) true n 22 cs = some x) (hsz : ∀ n ∈ x.1.weights Tryd.prog 22, n ≤ reachBytes) :
    ∃ a len cap l, cs = [.slice a len cap] ∧ Reads .u8 w a len cap l ∧ (∀ y ∈ l, y < 256) ∧ l.length ≤ 140737488351232 := by
  rcases Go.ChangeShapes.open_ints Tryd.underlying22 Tryd.underlying5 (by kernel_rfl) h with ⟨rfl, _⟩ | ⟨a, len, cap, zs, rfl, hb, hl, hm, hz, hxd, hc, hw⟩
  · exact ⟨none, 0, 0, [], rfl, Reads.none _ w, (fun _ h => by cases h), by simp⟩
  · obtain ⟨l, h1, h2⟩ := reads_of_bytesT (a := some a) (.inr ⟨a, rfl, hl, hm, by simpa using hz, hc, hw⟩)
    refine ⟨_, _, _, l, rfl, h1, h2, ?_⟩
    have hzl : zs.length = cap := by simpa using hz
    have hx1 := congrArg Prod.fst hxd
    rw [hx1] at hsz
    have hre := hsz _ (by simp only [DataW.weights, Tryd.underlying22]; exact List.mem_cons_self)
    rw [show Tryd.prog.bytesOf 5 = 1 by kernel_rfl] at hre
    unfold reachBytes at hre
    simp [Go.ChangeShapes.lits, hzl] at hre
    rw [h1.length]
    omega

set_option maxRecDepth 100000 in
theorem open_nodeL {H : Type} {enc : TypeId × Value → H} {w : World} (n : Nat) : ∀ (cs : List Value) (x : DataW H × List MemPlace), DataW.trod enc Tryd.prog w 0 (fun _ => true) true n 25 cs = some x → (∀ n ∈ x.1.weights Tryd.prog 25, n ≤ reachBytes) → ∃ (V : NV) (T : Tr), cs = V.cells ∧ NodeAt w V T ∧ T.ok ∧ T.lim := by
  induction n using Nat.strongRecOn with
  | _ n ih =>
    intro cs x h hz
    obtain ⟨xs, m, rfl, hx0, hl, hlen, hf⟩ := DataW.trod_struct Tryd.underlying25 h
    have h5 : cs.length = 5 := hl.trans (by kernel_rfl)
    obtain ⟨c0, c1, c2, c3, c4, rfl⟩ : ∃ c0 c1 c2 c3 c4, cs = [c0, c1, c2, c3, c4] := by
      match cs, h5 with
      | [a, b, c, d, e], _ => exact ⟨a, b, c, d, e, rfl⟩
    match xs, hlen with
    | [y0, y1, y2, y3, y4], _ =>
    subst hx0
    have hz3 : ∀ n ∈ y3.1.weights Tryd.prog 22, n ≤ reachBytes := fun n hn => hz n (node_w3 hn)
    have hz4 : ∀ n ∈ y4.1.weights Tryd.prog 23, n ≤ reachBytes := fun n hn => hz n (node_w4 hn)
    have z3 : Tryd.prog.cellsOf 3 = 1 := by kernel_rfl
    have z4 : Tryd.prog.cellsOf 4 = 1 := by kernel_rfl
    have z22 : Tryd.prog.cellsOf 22 = 1 := by kernel_rfl
    have z23 : Tryd.prog.cellsOf 23 = 1 := by kernel_rfl
    have z25 : Tryd.prog.cellsOf 25 = 5 := by kernel_rfl
    have g0 := hf 0 _ rfl
    have g1 := hf 1 _ rfl
    have g2 := hf 2 _ rfl
    have g3 := hf 3 _ rfl
    have g4 := hf 4 _ rfl
    simp [z3, z4, z22, z23] at g0 g1 g2 g3 g4
    obtain ⟨n0, e0, -, w0⟩ := DataW.trod_int Tryd.underlying3 g0
    obtain ⟨n1, e1, -, w1⟩ := DataW.trod_int Tryd.underlying3 g1
    obtain ⟨b2, e2, -⟩ := DataW.trod_bool Tryd.underlying4 g2
    obtain ⟨a3, l3, k3, l, e3, hr, hx, hlm⟩ := bytes_of_trodL g3 hz3
    simp only [List.cons.injEq, and_true] at e0 e1 e2 e3
    subst e0 e1 e2 e3
    have bd0 := bounds_i64 w0
    have bd1 := bounds_i64 w1
    rcases DataW.trod_slice Tryd.underlying23 g4 with ⟨e4, -⟩ | ⟨a, len, cap, elems, rest, m', hm', e4, hx4, -, hle, hmax, hel, hget, -, -⟩
    · simp only [List.cons.injEq, and_true] at e4
      subst e4
      exact ⟨⟨n0, n1, b2, a3, l3, k3, none, 0, 0⟩, .mk n0 n1 b2 l [], rfl, .mk ⟨n0, n1, b2, a3, l3, k3, none, 0, 0⟩ l [] (fun _ => default) hr hx rfl (Nat.le_refl _) (Nat.zero_le _) (fun _ => rfl) (fun h => absurd h (by simp)) (fun i h => absurd h (by simp)), ⟨⟨bd0.1, bd0.2, bd1.1, bd1.2⟩, trivial⟩, hlm, trivial⟩
    · simp only [List.cons.injEq, and_true] at e4
      subst e4
      rw [z25] at hget
      have key : ∀ i, ∃ p : NV × Tr, i < len → (∃ b off, a.add (i * 5) = ⟨b, off, none⟩ ∧ CellsAt w b off p.1) ∧ NodeAt w p.1 p.2 ∧ p.2.ok ∧ p.2.lim := fun i => by
        by_cases hi : i < len
        · have hg := hget i hi
          rw [List.getElem?_eq_getElem (by omega)] at hg
          obtain ⟨cs', h1, h2⟩ := Option.bind_eq_some_iff.1 hg
          obtain ⟨V, T, rfl, hn, ho⟩ := ih m' (by omega) cs' _ h2 (fun n hn => hz4 n (by rw [hx4]; exact elem_w (i := i) (by rw [List.getElem?_map, List.getElem?_eq_getElem (by omega)]; rfl) hn))
          exact ⟨(V, T), fun _ => ⟨cells_of h1, hn, ho⟩⟩
        · exact ⟨default, fun h => absurd h hi⟩
      obtain ⟨f, hf'⟩ := Classical.axiomOfChoice key
      have hks : ((List.range len).map fun i => (f i).2).length = len := by simp
      refine ⟨⟨n0, n1, b2, a3, l3, k3, some a, len, cap⟩, .mk n0 n1 b2 l ((List.range len).map fun i => (f i).2), rfl, .mk ⟨n0, n1, b2, a3, l3, k3, some a, len, cap⟩ l _ (fun i => (f i).1) hr hx hks hle hmax (fun h => by cases h) (fun hp => ?_) (fun i h => ?_), ⟨⟨bd0.1, bd0.2, bd1.1, bd1.2⟩, (okL_iff _).2 fun t ht => ?_⟩, hlm, (limL_iff _).2 fun t ht => ?_⟩
      · obtain ⟨⟨b, off, hb, hc⟩, -⟩ := hf' 0 hp
        obtain ⟨ab, ao, asp⟩ := a
        have hsp : asp = .none := by
          have := congrArg Addr.spot hb
          simpa [Addr.add] using this
        subst hsp
        have e : ∀ i, (⟨ab, ao, .none⟩ : Addr).add i = ⟨ab, ao + i, .none⟩ := fun i => by unfold Addr.add; split <;> simp_all
        refine ⟨ab, ao, rfl, ?_, fun i hi => ?_⟩
        · rw [e] at hb
          cases hb
          exact hc.lt
        · obtain ⟨⟨b', off', hb', hc'⟩, -⟩ := hf' i hi
          rw [e] at hb'
          cases hb'
          exact hc'
      · have hi : i < len := by rw [hks] at h; exact h
        simp only [List.getElem_map, List.getElem_range]
        exact (hf' i hi).2.1
      · obtain ⟨i, hi, rfl⟩ := List.mem_map.1 ht
        exact (hf' i (List.mem_range.1 hi)).2.2.1
      · obtain ⟨i, hi, rfl⟩ := List.mem_map.1 ht
        exact (hf' i (List.mem_range.1 hi)).2.2.2

end Go.Proofs.YtkmphiakciihfaaDoor

namespace Go.Proofs.YtkmphiakciihfaaDoor
open Go.RowKit

mutual
/-- What weigh answers: nodes and bytes. -/
def wgT : Tr → Int → Int × Int | .mk _ _ _ l ks, d => wgK ks 1 (l.length : Int) d
def wgK : List Tr → Int → Int → Int → Int × Int
  | [], n, b, _ => (n, b)
  | t :: ts, n, b, d => if d < 1 ∨ 600 < n then (601, b) else wgK ts (n + (wgT t (d - 1)).1) (b + (wgT t (d - 1)).2) d
end

mutual
theorem wgT_ok : ∀ (T : Tr) (d : Int), 0 ≤ d → (1 ≤ (wgT T d).1 ∧ 0 ≤ (wgT T d).2 ∧ ((wgT T d).1 ≤ 600 → (T.cnt : Int) ≤ (wgT T d).1 ∧ (T.wt : Int) ≤ (wgT T d).1 + (wgT T d).2 ∧ (T.dep : Int) ≤ d + 1))
  | .mk c t k l ks, d, hd => by
    have h := wgK_ok ks 1 (l.length : Int) d hd (by omega) (by omega)
    simp only [wgT, Tr.cnt, Tr.wt, Tr.dep]
    omega
theorem wgK_ok : ∀ (ks : List Tr) (n b d : Int), 0 ≤ d → 1 ≤ n → 0 ≤ b → (n ≤ (wgK ks n b d).1 ∨ 601 ≤ (wgK ks n b d).1) ∧ b ≤ (wgK ks n b d).2 ∧ ((wgK ks n b d).1 ≤ 600 → n + (cntL ks : Int) ≤ (wgK ks n b d).1 ∧ (wtL ks : Int) + n + b ≤ (wgK ks n b d).1 + (wgK ks n b d).2 ∧ (depL ks : Int) ≤ d)
  | [], n, b, d, hd, hn, hb => by simp only [wgK, cntL, wtL, depL]; omega
  | t :: ts, n, b, d, hd, hn, hb => by
    by_cases h1 : d < 1 ∨ 600 < n
    · simp only [wgK, if_pos h1]
      omega
    · have h2 := wgT_ok t (d - 1) (by omega)
      have h3 := wgK_ok ts (n + (wgT t (d - 1)).1) (b + (wgT t (d - 1)).2) d hd (by omega) (by omega)
      simp only [wgK, if_neg h1, cntL, wtL, depL]
      omega
end

def great12 (T : Tr) : Bool := decide (600 < (wgT T 40).1) || decide (70000 < (wgT T 40).2)
theorem great12_no {T : Tr} (h : great12 T = false) : T.wt ≤ 70600 ∧ T.cnt ≤ 600 ∧ T.dep ≤ 41 := by
  have h2 := wgT_ok T 40 (by omega)
  unfold great12 at h
  rw [Bool.or_eq_false_iff, decide_eq_false_iff_not, decide_eq_false_iff_not] at h
  omega

mutual
theorem wgT_hi : ∀ (T : Tr) (d : Int), T.lim → 0 ≤ d → (wgT T d).1 ≤ 601 + 600 * d ∧ (wgT T d).2 ≤ 140737488351232 * (601 + 600 * d) ∧ ((wgT T d).1 ≤ 600 → (wgT T d).2 ≤ 140737488351232 * (wgT T d).1)
  | .mk c t k l ks, d, hl, hd => by
    have h1 := hl.1
    exact wgK_hi ks 1 (l.length : Int) d hl.2 hd (by omega) (by omega) (by omega) (by omega)
theorem wgK_hi : ∀ (ks : List Tr) (n b d : Int), limL ks → 0 ≤ d → 1 ≤ n → n ≤ 601 + 600 * d → b ≤ 140737488351232 * (601 + 600 * d) → (n ≤ 600 → b ≤ 140737488351232 * n) → (wgK ks n b d).1 ≤ 601 + 600 * d ∧ (wgK ks n b d).2 ≤ 140737488351232 * (601 + 600 * d) ∧ ((wgK ks n b d).1 ≤ 600 → (wgK ks n b d).2 ≤ 140737488351232 * (wgK ks n b d).1)
  | [], n, b, d, hl, hd, h1, h2, h3, h4 => by simp only [wgK]; exact ⟨h2, h3, h4⟩
  | t :: ts, n, b, d, hl, hd, h1, h2, h3, h4 => by
    by_cases h5 : d < 1 ∨ 600 < n
    · simp only [wgK, if_pos h5]
      omega
    · have h6 := wgT_hi t (d - 1) hl.1 (by omega)
      have h7 := wgT_ok t (d - 1) (by omega)
      simp only [wgK, if_neg h5]
      exact wgK_hi ts _ _ d hl.2 hd (by omega) (by omega) (by omega) (by omega)
end

def Wg12Ok (T : Tr) : Prop := ∀ (V : NV) (w : World) (d : Int), NodeAt w V T → T.lim → 0 ≤ d → d ≤ 40 →
  Calls Tryd.prog 30 #[V.agg, .int .i64 d] w fun e w' => e = .returned (.tuple #[.int .i64 (wgT T d).1, .int .i64 (wgT T d).2]) ∧ Below w.heap.size w w'

structure Wg12I (w1 : World) (ks : List Tr) (d : Int) (tot : Int × Int) (k : Nat) (n b : Int) (wr : World) : Prop where
  same : wgK (ks.drop k) n b d = tot
  n1 : 1 ≤ n
  n2 : n ≤ 601 + 600 * d
  b1 : 0 ≤ b
  b2 : b ≤ 140737488351232 * (601 + 600 * d)
  nb : n ≤ 600 → b ≤ 140737488351232 * n
  below : Below w1.heap.size w1 wr

set_option maxRecDepth 100000 in
set_option maxHeartbeats 8000000 in
theorem wg12_of (c t : Int) (kk : Bool) (l : List Nat) (ks : List Tr) (hI : ∀ T ∈ ks, Wg12Ok T) : Wg12Ok (.mk c t kk l ks) := by
  intro V w d hn hlim h2 h3
  have hby := hn.bytes
  have hkd := hn.kids
  obtain ⟨vc, vt, vk, ba, bl, bc, ka, kl, kc⟩ := V
  dsimp only at hby hkd
  simp only [Tr.b, Tr.kids] at hby hkd
  have hkl := Lib.hid hkd.length
  have hkle := hkd.le
  have hkm := hkd.max
  have hbl := hby.length
  unfold maxLen at hkm
  have hl1 := hlim.1
  have HLK := Lib.hid ((limL_iff ks).1 hlim.2)
  obtain ⟨w1, hw1⟩ : ∃ w1, w.alloc (.cells #[.int .i64 vc, .int .i64 vt, .bool vk, .slice ba bl bc, .slice ka kl kc] 25) = w1 := ⟨_, rfl⟩
  have hb1 : Below w.heap.size w w1 := by rw [← hw1]; exact (Below.refl _ _).alloc (Nat.le_refl _) _
  have ca : CellsAt w1 w.heap.size 0 ⟨vc, vt, vk, ba, bl, bc, ka, kl, kc⟩ := by rw [← hw1]; exact cells5 w vc vt vk ba bl bc ka kl kc _
  have CA := Lib.hid ca
  have HB1 := Lib.hid hb1
  have HKD := Lib.hid (hkd.below hb1)
  have HI := Lib.hid hI
  obtain ⟨p0, p1, p2, p3, p4⟩ := ca
  dsimp only at p0 p1 p2 p3 p4
  simp only [Nat.zero_add] at p0 p1 p2 p3 p4
  have hb47 : bl ≤ 140737488351232 := by omega
  have HT := Lib.hid (show wgT (.mk c t kk l ks) d = wgK ks 1 (bl : Int) d by rw [wgT, hbl])
  obtain ⟨tot, htot⟩ : ∃ x, wgT (.mk c t kk l ks) d = x := ⟨_, rfl⟩
  rw [htot] at HT ⊢
  clear hn hby hkd hb1 hI htot hlim hl1 hbl
  unfold NV.agg
  dsimp only
  go_enter Tryd.func30, Tryd.ntmps30
  go_wp2_with fail
  clear hw1
  go_quiet (fail)
  go_wp2_with fail
  go_loopw [15, 4, 5] (fun i nn bb wr => ∃ (k : Nat) (n b : Int), k ≤ kl ∧ i = .int .i64 (k : Int) ∧ nn = .int .i64 n ∧ bb = .int .i64 b ∧ Wg12I w1 ks d tot k n b wr) (fun i _ _ _ => kl - (intOf i).toNat)
  case atStart => exact ⟨0, 1, (bl : Int), Nat.zero_le _, rfl, rfl, rfl, HT.out.symm, by omega, by omega, by omega, by omega, by omega, below_drewN _ _⟩
  case round =>
    obtain ⟨k, n, b, hk, rfl, rfl, rfl, hr⟩ := hrel
    have hn1 := hr.n1
    have hn2 := hr.n2
    have hbb1 := hr.b1
    have hbb2 := hr.b2
    have HRL := Lib.hid hr
    have p4 := (CA.out.below hr.below CA.out.lt).c4
    dsimp only at p4
    rw [Nat.zero_add] at p4
    clear hr p0 p1 p2 p3
    by_cases hlt : k < kl
    · have hk1 : k < ks.length := by rw [hkl.out]; exact hlt
      have HD := Lib.hid (show wgK (ks.drop k) n b d = if d < 1 ∨ 600 < n then (601, b) else wgK (ks.drop (k + 1)) (n + (wgT ks[k] (d - 1)).1) (b + (wgT ks[k] (d - 1)).2) d by
        rw [List.drop_eq_getElem_cons hk1, wgK])
      by_cases hd : d < 1
      · have HE := Lib.hid (show tot = (601, b) by rw [← HRL.out.same, HD.out, if_pos (.inl hd)])
        have d1 : decide (d < 1) = true := decide_eq_true hd
        go_wp2_with fail
        go_ret2
        exact ⟨by rw [HE.out]; rfl, HB1.out.trans (HRL.out.below.mono (by have := HB1.out.size; omega))⟩
      · by_cases h6 : 600 < n
        · have HE := Lib.hid (show tot = (601, b) by rw [← HRL.out.same, HD.out, if_pos (.inr h6)])
          have d1 : decide (d < 1) = false := decide_eq_false hd
          have d2 : decide (600 < n) = true := decide_eq_true h6
          go_wp2_with fail
          go_ret2
          exact ⟨by rw [HE.out]; rfl, HB1.out.trans (HRL.out.below.mono (by have := HB1.out.size; omega))⟩
        · have d1 : decide (d < 1) = false := decide_eq_false hd
          have d2 : decide (600 < n) = false := decide_eq_false h6
          obtain ⟨U, hc, hnu⟩ := HKD.out.cells
          obtain ⟨bb, o1, rfl, hbk, hcell⟩ := hc (by omega)
          have hcu := (hcell k hlt).below HRL.out.below hbk
          have hnk := (hnu k hk1).under HRL.out.below
          obtain ⟨X, hX⟩ : ∃ X, U k = X := ⟨_, rfl⟩
          rw [hX] at hcu hnk
          have HOK := Lib.hid (HI.out ks[k] (List.getElem_mem hk1) X wr (d - 1) hnk (HLK.out _ (List.getElem_mem hk1)) (by omega) (by omega))
          have h7 := wgT_hi ks[k] (d - 1) (HLK.out _ (List.getElem_mem hk1)) (by omega)
          have h8 := wgT_ok ks[k] (d - 1) (by omega)
          have hnb := HRL.out.nb (by omega)
          obtain ⟨xc, xt, xk, xa, xl, xm, ya, yl, ym⟩ := X
          unfold NV.agg at HOK
          dsimp only at HOK
          obtain ⟨r0, r1, r2, r3, r4⟩ := hcu
          dsimp only at r0 r1 r2 r3 r4
          have HE := Lib.hid (show wgK (ks.drop (k + 1)) (n + (wgT ks[k] (d - 1)).1) (b + (wgT ks[k] (d - 1)).2) d = tot by rw [← HRL.out.same, HD.out, if_neg (by omega)])
          clear hc hnu hcell hnk hX hbk HD
          generalize (wgT ks[k] (d - 1)).1 = n9 at *
          generalize (wgT ks[k] (d - 1)).2 = b9 at *
          have z1 : 1 ≤ n9 := h8.1
          have z2 : n9 ≤ 25000 := by omega
          have z3 : 0 ≤ b9 := h8.2.1
          have z4 : b9 ≤ 4000000000000000000 := by omega
          have z5 : b ≤ 140737488351232 * 600 := by omega
          have HNX := Lib.hid (show n + n9 ≤ 601 + 600 * d ∧ b + b9 ≤ 140737488351232 * (601 + 600 * d) ∧ (n + n9 ≤ 600 → b + b9 ≤ 140737488351232 * (n + n9)) by omega)
          clear h7 h8 hbb2 hn2 hnb
          go_wp2_with fail
          refine HOK.out.mono ?_
          rintro e w4 ⟨rfl, hb4⟩
          have HB4 := Lib.hid (HRL.out.below.trans (hb4.mono HRL.out.below.size))
          clear hb4 p4 r0 r1 r2 r3 r4 HOK
          go_wp2_with fail
          go_roundw
          case rel => exact ⟨k + 1, n + n9, b + b9, by omega, by go_num, rfl, rfl, HE.out, by omega, HNX.out.1, by omega, HNX.out.2.1, HNX.out.2.2, HB4.out⟩
          case measure => simp [intOf]; omega
    · obtain rfl : k = kl := by omega
      have HE := Lib.hid (show tot = (n, b) by rw [← HRL.out.same, List.drop_of_length_le (by rw [hkl.out]; exact Nat.le_refl _), wgK])
      clear hlt
      go_wp2_with fail
      go_ret2
      exact ⟨by rw [HE.out]; rfl, HB1.out.trans (HRL.out.below.mono (by have := HB1.out.size; omega))⟩

theorem wg12_ok : ∀ (n : Nat) (T : Tr), T.wt ≤ n → Wg12Ok T
  | 0, T, h => by have := T.wt_pos; omega
  | n + 1, .mk c t k l ks, h => by
    simp only [Tr.wt] at h
    exact wg12_of c t k l ks (fun T hT => wg12_ok n T (by have := wtL_mem hT; omega))

theorem ret_bD {a b : Bool} (h : a = b) : Ending.returned (.bool a) = .returned (.bool b) := by rw [h]
set_option maxHeartbeats 2000000 in
theorem great12_any (T : Tr) (V : NV) (w : World) (hn : NodeAt w V T) (hlim : T.lim) : Calls Tryd.prog 9 #[V.agg] w fun e w' => e = .returned (.bool (great12 T)) ∧ Below w.heap.size w w' := by
  obtain ⟨c, t, kk, ba, bl, bc, ka, kl, kc⟩ := V
  obtain ⟨w1, hw1⟩ : ∃ w1, w.alloc (.cells #[.int .i64 c, .int .i64 t, .bool kk, .slice ba bl bc, .slice ka kl kc] 25) = w1 := ⟨_, rfl⟩
  have hb1 : Below w.heap.size w w1 := by rw [← hw1]; exact (Below.refl _ _).alloc (Nat.le_refl _) _
  have hcx : CellsAt w1 w.heap.size 0 ⟨c, t, kk, ba, bl, bc, ka, kl, kc⟩ := by rw [← hw1]; exact cells5 w c t kk ba bl bc ka kl kc _
  have HW := Lib.hid (wg12_ok T.wt T (Nat.le_refl _) ⟨c, t, kk, ba, bl, bc, ka, kl, kc⟩ w1 40 (hn.under hb1) hlim (by omega) (by omega))
  have HB1 := Lib.hid hb1
  have HG := Lib.hid (show great12 T = (decide (600 < (wgT T 40).1) || decide (70000 < (wgT T 40).2)) from rfl)
  obtain ⟨p0, p1, p2, p3, p4⟩ := hcx
  dsimp only at p0 p1 p2 p3 p4
  simp only [Nat.zero_add] at p0 p1 p2 p3 p4
  generalize great12 T = g at *
  generalize (wgT T 40).1 = n at *
  generalize (wgT T 40).2 = b at *
  unfold NV.agg at HW ⊢
  dsimp only at HW ⊢
  clear hn hb1
  by_cases h1 : 600 < n
  · have d1 : decide (600 < n) = true := decide_eq_true h1
    have HG2 := Lib.hid (show g = true by rw [HG.out, d1, Bool.true_or])
    go_enter Tryd.func9, Tryd.ntmps9
    go_wp2_with fail
    clear hw1
    refine HW.out.mono ?_
    rintro e w2 ⟨rfl, hb2⟩
    have HB2 := Lib.hid (HB1.out.trans (hb2.mono HB1.out.size))
    clear hb2 p0 p1 p2 p3 p4
    go_wp2_with fail
    go_ret
    exact ⟨ret_bD HG2.out.symm, HB2.out⟩
  · have d1 : decide (600 < n) = false := decide_eq_false h1
    obtain ⟨x, hx⟩ : ∃ x, decide (70000 < b) = x := ⟨_, rfl⟩
    have HG2 := Lib.hid (show g = x by rw [HG.out, d1, Bool.false_or, hx])
    go_enter Tryd.func9, Tryd.ntmps9
    go_wp2_with fail
    clear hw1
    refine HW.out.mono ?_
    rintro e w2 ⟨rfl, hb2⟩
    have HB2 := Lib.hid (HB1.out.trans (hb2.mono HB1.out.size))
    clear hb2 p0 p1 p2 p3 p4
    go_wp2_with fail
    go_ret
    exact ⟨ret_bD HG2.out.symm, HB2.out⟩

end Go.Proofs.YtkmphiakciihfaaDoor
