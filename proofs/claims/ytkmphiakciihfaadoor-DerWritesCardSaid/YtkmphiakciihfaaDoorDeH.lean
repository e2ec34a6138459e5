/-
  writer.bytes: A TREE's BYTES, by induction on the tree.
-/
import Derived.Test.YtkmphiakciihfaaDoorDeS
import Derived.Test.YtkmphiakciihfaaDoorDeQ
import Derived.Laws.EntriesVeiled
namespace Go.Proofs.YtkmphiakciihfaaDoor
open Go.RowKit Go.Shelf
attribute [local go_sem] Oper.semAt_some

theorem isset_any (V : NV) (b off : Nat) (w : World) (hc : CellsAt w b off V) : Calls Tryd.prog 52 #[.pointer (some ⟨b, off, none⟩)] w fun e w' => e = .returned (.bool (decide (V.cls = 0) && decide (V.tag = 17))) ∧ Below w.heap.size w w' := by
  obtain ⟨vc, vt, vk, ba, bl, bc, ka, kl, kc⟩ := V
  have HIS := Lib.hid (is_any ⟨vc, vt, vk, ba, bl, bc, ka, kl, kc⟩ 0 17 w)
  unfold NV.agg at HIS
  dsimp only at HIS
  obtain ⟨r0, r1, r2, r3, r4⟩ := hc
  dsimp only at r0 r1 r2 r3 r4
  go_enter Tryd.func52, Tryd.ntmps52
  go_wp2_with fail
  refine HIS.out.mono ?_
  rintro e w2 ⟨rfl, hb⟩
  have HB := Lib.hid hb
  clear hb r0 r1 r2 r3 r4
  go_wp2_with fail
  go_ret
  exact ⟨rfl, HB.out⟩

theorem own8_sl {E B : Nat} {w : World} {v : Value} {l : List UInt8} (h : Own8 E B w v l) : ∃ a n c, v = .slice a n c := let ⟨a, c, e, _⟩ := h.form; ⟨a, _, c, e⟩
theorem rows2_lit3 (w : World) (T : TypeId) (x0 x1 x2 : Row2) (h0 : Bts w x0.1 x0.2.1 x0.2.2.1 x0.2.2.2) (h1 : Bts w x1.1 x1.2.1 x1.2.2.1 x1.2.2.2) (h2 : Bts w x2.1 x2.2.1 x2.2.2.1 x2.2.2.2) :
    Rows2 (w.alloc (.cells #[.slice x0.1 x0.2.1 x0.2.2.1, .slice x1.1 x1.2.1 x1.2.2.1, .slice x2.1 x2.2.1 x2.2.2.1] T)) (some ⟨w.heap.size, 0, none⟩) 3 3 [x0, x1, x2] := by
  have hb : Below w.heap.size w (w.alloc (.cells #[.slice x0.1 x0.2.1 x0.2.2.1, .slice x1.1 x1.2.1 x1.2.2.1, .slice x2.1 x2.2.1 x2.2.2.1] T)) := (Below.refl _ _).alloc (Nat.le_refl _) _
  refine ⟨rfl, by unfold maxLen; omega, fun _ => ⟨w.heap.size, 0, rfl, by simp, fun i hi => ?_⟩, fun x hx => ?_⟩
  · rw [Nat.zero_add]
    exact cells3 w T x0 x1 x2 i hi
  · rcases List.mem_cons.1 hx with rfl | hx
    · exact h0.below hb
    · rcases List.mem_cons.1 hx with rfl | hx
      · exact h1.below hb
      · obtain rfl := List.mem_singleton.1 hx
        exact h2.below hb

/-- Behind what came: is the writer fallen? -/
def gF (f ord : Bool) (pre : List Pc) : Bool := f || pre.any Pc.f || (ord && downs [] (pre.map Pc.l))
theorem gF_snoc (f ord : Bool) (pre : List Pc) (x : Pc) : gF f ord (pre ++ [x]) = ((gF f ord pre || x.f) || (ord && decide (0 < Lib.compareBytes (lastU [] (pre.map Pc.l)) x.l))) := by
  unfold gF
  rw [List.any_append, List.map_append, List.map_cons, List.map_nil, downs_snoc]
  simp only [List.any_cons, List.any_nil, Bool.or_false]
  cases f <;> cases ord <;> cases pre.any Pc.f <;> cases x.f <;> cases downs [] (pre.map Pc.l) <;> simp
def catP (pre : List Pc) : List UInt8 := (pre.map Pc.l).flatten
theorem catP_snoc (pre : List Pc) (x : Pc) : catP (pre ++ [x]) = catP pre ++ x.l := by unfold catP; simp

/-- What was told when all was told. -/
theorem pcsT_all {T : Tr} {xs : List Pc} (h : xs.map Pc.is = pcsT T) (hf : T.fine) : catP xs = u8s T.b ++ derL T.kids ∧ ∀ f, gF f (decide (T.cls = 0) && decide (T.tag = 17)) xs = (f || T.falls) := by
  obtain ⟨c, t, k, l, ks⟩ := T
  obtain ⟨⟨-, -, -, -, hk1, hk2, hk3⟩, -⟩ := hf
  have e1 : xs.map Pc.l = (pcsT (.mk c t k l ks)).map Prod.fst := by rw [← h, List.map_map]; rfl
  have e2 : xs.any Pc.f = (pcsT (.mk c t k l ks)).any Prod.snd := by rw [← h, List.any_map]; rfl
  unfold catP gF
  rw [e1, e2]
  cases k with
  | true =>
    obtain rfl := hk1 rfl
    have e3 : pcsT (.mk c t true [] ks) = ks.map (fun K => (K.der, K.falls)) := rfl
    rw [e3, List.map_map, List.any_map]
    have e4 : ks.map (Prod.fst ∘ fun K : Tr => (K.der, K.falls)) = ks.map Tr.der := rfl
    have e5 : ks.any (Prod.snd ∘ fun K : Tr => (K.der, K.falls)) = fallsL ks := by rw [fallsL_any]; rfl
    rw [e4, e5]
    refine ⟨by rw [← derL_flat]; rfl, fun f => ?_⟩
    simp only [Tr.falls, Tr.cls, Tr.tag, Bool.or_assoc]
    by_cases h0 : c = 0 <;> by_cases h1 : t = 17 <;> simp [h0, h1]
  | false =>
    obtain rfl := hk2 rfl
    have e3 : pcsT (.mk c t false l []) = [(u8s l, false)] := rfl
    rw [e3]
    refine ⟨by simp [derL, Tr.b, Tr.kids], fun f => ?_⟩
    have : ¬ (c = 0 ∧ t = 17) := fun h => by have := hk3 h.1 h.2; cases this
    simp only [Tr.falls, fallsL, Tr.cls, Tr.tag]
    by_cases h0 : c = 0 <;> by_cases h1 : t = 17 <;> simp_all

theorem take_cat {T : Tr} {pre : List Pc} {k : Nat} (h : pre.map Pc.is = (pcsT T).take k) : (catP pre).length ≤ ((pcsT T).map Prod.fst).flatten.length := by
  have e1 : pre.map Pc.l = ((pcsT T).map Prod.fst).take k := by rw [← List.map_take, ← h, List.map_map]; rfl
  unfold catP
  rw [e1]
  conv => rhs; rw [← List.take_append_drop k ((pcsT T).map Prod.fst), List.flatten_append, List.length_append]
  omega

theorem pcs_len (T : Tr) : ((pcsT T).map Prod.fst).flatten.length ≤ T.dsiz := by
  obtain ⟨c, t, k, l, ks⟩ := T
  simp only [Tr.dsiz]
  cases k with
  | true =>
    have e : (pcsT (.mk c t true l ks)).map Prod.fst = ks.map Tr.der := by
      show (ks.map (fun K => (K.der, K.falls))).map Prod.fst = _
      rw [List.map_map]; rfl
    rw [e, ← derL_flat, derL_length]
    omega
  | false =>
    have e : (pcsT (.mk c t false l ks)).map Prod.fst = [u8s l] := rfl
    rw [e]
    simp [u8s]
    omega

/-- What stands when the bytes are joined. -/
structure Fin13 (D A : Nat) (T : Tr) (W : World) (a' : Act) (X : World) : Prop where
  defers : a'.defers = [{ target := .collected D, args := #[] }]
  out : ∃ v, a'.tmps[4]? = some v ∧ Own8 5 A X v T.der
  below : Below W.heap.size W X

theorem below_back {B : Nat} {a b c : World} (h : Below B a b) (k : Below B a c) (hs : b.heap.size ≤ c.heap.size) : Below B b c := ⟨k.os.trans h.os.symm, k.tape.trans h.tape.symm, k.output.trans h.output.symm, hs, fun i hi => (k.block i hi).trans (h.block i hi).symm⟩

/-- Between two rounds; with a piece at hand; what a round may write. -/
def BcI (w0 w : World) (A wb bO bw bt b off : Nat) (T : Tr) (f ord : Bool) (pre : List Pc) (W : World) : Prop := ∃ v aa an ac, BcS w0 w A wb bO bw bt b off ord v (catP pre) aa an ac (if ord then lastU [] (pre.map Pc.l) else []) (gF f ord pre) W ∧ pre.map Pc.is = (pcsT T).take pre.length
def BcJ (w0 w : World) (A wb bO bw bt b off : Nat) (T : Tr) (f ord : Bool) (p : List Pc × Pc) (W : World) : Prop := ∃ v aa an ac, BcS w0 w A wb bO bw bt b off ord v (catP p.1) aa an ac (if ord then lastU [] (p.1.map Pc.l) else []) (gF f ord p.1 || p.2.f) W ∧ Bts W p.2.a p.2.n p.2.c p.2.l ∧ (0 < p.2.n → ∀ ad, p.2.a = some ad → v.ownBlock ≠ some ad.block) ∧ (p.1 ++ [p.2]).map Pc.is = (pcsT T).take (p.1.length + 1)
def BcE (bt bw k : Nat) : Prop := k ≠ bt ∧ k ≠ bw

set_option maxRecDepth 100000 in
set_option maxHeartbeats 8000000 in
theorem bytes_of (T : Tr) (hI : ∀ K ∈ T.kids, WrOk K) : WrOk T := by
  intro w0 V b off wb f w hn hca hfine hwt hbel hwb hbox
  obtain ⟨i0, hi, hz0, hz1, hz2⟩ := info_parts Tryd.info8
  have hA := hbox.lt
  have hZA : w0.heap.size ≤ w.heap.size := hbel.size
  obtain ⟨W3, hW3⟩ : ∃ W3, ((w.alloc (.cells #[.pointer (some ⟨wb, 0, none⟩)] 74)).alloc (.cells #[.slice none 0 0] 22)).alloc (.cells #[.slice none 0 0] 22) = W3 := ⟨_, rfl⟩
  have hz3 : W3.heap.size = w.heap.size + 3 := by rw [← hW3]; simp
  have hb3 : Below w.heap.size w W3 := by rw [← hW3]; exact (((Below.refl _ w).alloc (Nat.le_refl _) _).alloc (by simp) _).alloc (by simp; omega) _
  have xp := Lib.hid (show Boxed W3 w.heap.size 74 (.pointer (some ⟨wb, 0, none⟩)) by rw [← hW3]; exact ((Boxed.new w _ _).alloc _).alloc _)
  have xv := Lib.hid (show Boxed W3 (w.heap.size + 1) 22 (.slice none 0 0) by
    rw [← hW3]
    have := ((Boxed.new (w.alloc (.cells #[.pointer (some ⟨wb, 0, none⟩)] 74)) 22 (.slice none 0 0)).alloc (.cells #[.slice none 0 0] 22))
    rwa [World.size_alloc] at this)
  have xa := Lib.hid (show Boxed W3 (w.heap.size + 2) 22 (.slice none 0 0) by
    rw [← hW3]
    have := Boxed.new ((w.alloc (.cells #[.pointer (some ⟨wb, 0, none⟩)] 74)).alloc (.cells #[.slice none 0 0] 22)) 22 (.slice none 0 0)
    rwa [World.size_alloc, World.size_alloc] at this)
  have hca3 := hca.below (hbel.trans (hb3.mono hZA)) hca.lt
  have HIS := Lib.hid (isset_any V b off W3 hca3)
  obtain ⟨ord, hord⟩ : ∃ o, (decide (V.cls = 0) && decide (V.tag = 17)) = o := ⟨_, rfl⟩
  rw [hord] at HIS
  have HORD := Lib.hid (show (decide (T.cls = 0) && decide (T.tag = 17)) = ord by rw [hn.cls, hn.tag]; exact hord)
  have HN := Lib.hid hn
  have HCA := Lib.hid hca
  have HF := Lib.hid hfine
  have HWT := Lib.hid hwt
  have HBEL := Lib.hid hbel
  have HBX := Lib.hid hbox
  have HB3 := Lib.hid hb3
  have HI := Lib.hid hI
  have HZ := Lib.hid (show w0.heap.size ≤ wb ∧ wb < w.heap.size ∧ w0.heap.size ≤ w.heap.size ∧ W3.heap.size = w.heap.size + 3 from ⟨hwb, hA, hZA, hz3⟩)
  clear hn hca hfine hwt hbel hbox hb3 hI hwb hA hZA hz3 hca3 hord
  refine (callsIn_wide (n := 3)).1 ?_
  refine callsIn_of_wp_marks Tryd.func31 rfl trivial ?_ rfl
  simp only [Tryd.ntmps31, List.size_toArray, List.length_cons, List.length_nil, Nat.reduceAdd, Nat.reduceSub, Array.replicate_succ, Array.replicate_zero, List.push_toArray, List.append_toArray, List.nil_append, List.cons_append]
  refine wpIn_wide.2 ?_
  go_wp2_with fail
  refine wp_scope_straight ?_
  go_wp2_with fail
  clear hW3
  refine HIS.out.mono ?_
  rintro e w4 ⟨rfl, hb4⟩
  have HB4 := Lib.hid hb4
  clear hb4 HIS
  have hb34 : Below w.heap.size w w4 := HB3.out.trans (HB4.out.mono (by have := HZ.out; omega))
  have hz4 : w.heap.size + 3 ≤ w4.heap.size := by have := HB4.out.size; have := HZ.out; omega
  have bx : ∀ {k : Nat} {t : TypeId} {u : Value}, Boxed W3 k t u → Boxed (w4.alloc (.cells #[.bool ord] 4)) k t u := fun {k t u} hb => Boxed.alloc (show Boxed w4 k t u from (HB4.out.block _ hb.lt).trans hb) _
  have yp := bx xp.out
  have yv := bx xv.out
  have ya := bx xa.out
  have yo := Boxed.new w4 4 (.bool ord)
  have yx : Boxed (w4.alloc (.cells #[.bool ord] 4)) wb 57 (.bool f) := Boxed.alloc (show Boxed w4 wb 57 (.bool f) from (hb34.block _ (by have := HZ.out; omega)).trans HBX.out) _
  have HB5 := Lib.hid (hb34.alloc (by omega) (.cells #[.bool ord] 4))
  have hz5 : (w4.alloc (.cells #[.bool ord] 4)).heap.size = w4.heap.size + 1 := by simp
  have cp := yp.cell
  have HZ5 := Lib.hid hz5
  clear hb34 bx hz5
  go_wp2_with fail
  generalize w4.alloc (.cells #[.bool ord] 4) = W5 at *
  refine (wpIn_wide (n := 3)).1 ?_
  refine wpIn_label ?_
  go_wp2_with fail
  refine (pieces_m W5 b off wb).mono ?_
  rintro e w' ⟨rfl, rfl⟩
  clear cp
  go_wp2_with fail
  have hz5 := HZ5.out
  clear HZ5
  refine (wpIn_wide (n := 3)).1 ?_
  obtain ⟨W6, hW6⟩ : ∃ W6, (W5.alloc (.cells #[.pointer (some ⟨wb, 0, none⟩)] 74)).alloc (.cells #[.pointer (some ⟨b, off, none⟩)] 59) = W6 := ⟨_, rfl⟩
  have bx : ∀ {k : Nat} {t : TypeId} {u : Value}, Boxed W5 k t u → Boxed W6 k t u := fun hb => by rw [← hW6]; exact (hb.alloc _).alloc _
  have zw : Boxed W6 W5.heap.size 74 (.pointer (some ⟨wb, 0, none⟩)) := by rw [← hW6]; exact (Boxed.new W5 _ _).alloc _
  have zt : Boxed W6 (W5.heap.size + 1) 59 (.pointer (some ⟨b, off, none⟩)) := by
    rw [← hW6]
    have := Boxed.new (W5.alloc (.cells #[.pointer (some ⟨wb, 0, none⟩)] 74)) 59 (.pointer (some ⟨b, off, none⟩))
    rwa [World.size_alloc] at this
  have hz6 : W6.heap.size = W5.heap.size + 2 := by rw [← hW6]; simp
  have hb6 : Below w.heap.size w W6 := by rw [← hW6]; exact (HB5.out.alloc (by have := HZ.out; omega) _).alloc (by simp; have := HZ.out; omega) _
  have zp := bx yp
  have zv := bx yv
  have za := bx ya
  have zo := bx yo
  have zx := bx yx
  rw [hW6]
  clear hW6 yp yv ya yo yx bx xp xv xa
  obtain ⟨A, hA⟩ : ∃ A, w.heap.size = A := ⟨_, rfl⟩
  obtain ⟨bO, hbO⟩ : ∃ b, w4.heap.size = b := ⟨_, rfl⟩
  obtain ⟨bw, hbw⟩ : ∃ b, W5.heap.size = b := ⟨_, rfl⟩
  obtain ⟨bt, hbt⟩ : ∃ b, bw + 1 = b := ⟨_, rfl⟩
  rw [hbw, hbt] at zt
  simp only [hA, hbO, hbw, hbt] at zp zv za zo zx zw hz6 hz5 hz4 hb6 HZ ⊢
  have HBK : Hid (BcK w0.heap.size A wb bO bw bt) := ⟨by have := HZ.out; omega, by have := HZ.out; omega, by omega, by omega, by omega⟩
  have HA := Lib.hid hA
  have HZ6 := Lib.hid (show W6.heap.size = bt + 1 ∧ w0.heap.size ≤ A by have := HZ.out; omega)
  have hS0 : BcS w0 w A wb bO bw bt b off ord (.slice none 0 0) (catP []) none 0 0 (if ord then lastU [] ([] : List (List UInt8)) else []) (gF f ord []) W6 := by
    refine ⟨zv, Own8.nil _ _ _, za, ?_, fun h => by omega, zo, zp, zt, zw, ?_, HBEL.out.trans (hb6.mono (by have := HZ.out; omega)), ⟨hb6.size, fun k hk _ => hb6.block k (by omega)⟩⟩
    · have : (if ord then lastU [] ([] : List (List UInt8)) else []) = [] := by cases ord <;> rfl
      rw [this]; exact Bts.none W6
    · have : gF f ord [] = f := by unfold gF; cases f <;> cases ord <;> rfl
      rw [this]; exact zx
  have HS0 := Lib.hid hS0
  have hbel6 := hS0.below
  have hpl := pcs_len T
  have hdl := T.dsiz_le
  have HLN := Lib.hid (show ∀ (pre : List Pc) (k : Nat), pre.map Pc.is = (pcsT T).take k → (catP pre).length ≤ 11000000 from fun pre k h => by have := take_cat h; have := HWT.out; omega)
  clear hA hbO hbw hbt hz4 hz5 hz6 hb6 zp zv za zo zx hS0 hpl hdl HB3 HB4 HB5
  refine wpIn_rangeP1 (F := Fence.wide) (V := fun k => k = wb) (E := fun k => BcE bt bw k) rfl (show 1 ≤ 3 by decide) (gf := 61) (lb := #[.pointer (some ⟨bt, 0, none⟩), .pointer (some ⟨bw, 0, none⟩)]) rfl trivial (enters_of Tryd.func61 (by kernel_rfl) rfl)
    (pieces_come (3 - 1) (by decide) w0 V T b off wb HN.out HCA.out HWT.out HF.out HI.out HBK.out.z bt bw W6 zt zw (fun k => BcE bt bw k) ⟨by have := HBK.out.wb; have := HBK.out.o; have := HBK.out.w; have := HBK.out.t; omega, by have := HBK.out.wb; have := HBK.out.o; have := HBK.out.w; omega⟩ ⟨fun h => h.1 rfl, fun h => h.2 rfl⟩ hbel6)
    (fun pre x X X' h => h.kp) (fun k hk => by have := HBK.out.wb; have := HBK.out.o; have := HBK.out.w; have := HBK.out.t; have := HZ6.out.1; omega) (Below.refl _ _) (fun _ => rfl)
    (fun pre W => BcI w0 w A wb bO bw bt b off T f ord pre W)
    (fun p W => BcJ w0 w A wb bO bw bt b off T f ord p W)
    (fun _ _ _ => False)
    ?_ ?_ (fun _ _ _ _ _ h _ _ => h) ?_ ?_ ⟨_, _, _, _, HS0.out, rfl⟩ ?_ ?_ ?_ ?_ (fun _ _ _ _ _ _ h _ => h.elim)
  rotate_left 5
  · intro lp x W K hK
    gi_wp2
    exact hK
  · rintro lp pre x W hlt ⟨v, aa, an, ac, hS, hB, hap, his⟩
    dsimp only at hS hB hap his
    obtain ⟨va, vn, vc, rfl⟩ := own8_sl hS.own
    have cv := hS.hv.cell
    have HS := Lib.hid hS
    have HB := Lib.hid hB
    have HAP := Lib.hid hap
    have HIS := Lib.hid his
    have HE := Lib.hid (show w.heap.size = A from HA.out)
    have hAW : A ≤ W.heap.size := by have := hS.hv.lt; omega
    have hln := HLN.out _ _ his
    rw [catP_snoc, List.length_append, hB.length] at hln
    have HGS := Lib.hid (gF_snoc f ord pre x)
    have HCS := Lib.hid (catP_snoc pre x)
    have HDN := Lib.hid (show (if ord then lastU [] ((pre ++ [x]).map Pc.l) else []) = if ord then x.l else [] by rw [List.map_append, List.map_cons, List.map_nil, lastU_snoc])
    clear hS hB hap his zt zw hbel6 hlt
    generalize gF f ord pre = g0 at *
    generalize hcat : catP pre = C at *
    generalize hal : (if ord then lastU [] (pre.map Pc.l) else []) = AL at *
    have HAL := Lib.hid hal
    clear hcat hal
    cases ord with
    | false =>
      gi_wp2_with (gi_at_builtin; refine wpListIn_append_bts _ rfl _ _ 22 rfl A 5 i0 Tryd.underlying22 hi hz0 hz1 hz2 _ C rfl HS.out.own x.a x.n x.c x.l rfl HB.out (by omega) hAW ?_; intro v' w' ho' hgrow hat; obtain ⟨a', n', c', rfl⟩ := own8_sl ho'; obtain ⟨hv1, hS2, hb2, hap2, hko⟩ := HS.out.app HBK.out HE.out HB.out HAP.out ho' hgrow hat; have cv1 := hv1.cell; have fv1 := hv1.frozen; have co2 := hS2.ho.cell; have HS2 := Lib.hid hS2; have HB2 := Lib.hid hb2; have HAP2 := Lib.hid hap2; have HKO := Lib.hid hko; clear ho' hgrow hat hv1 hS2 hb2 hap2 hko)
      refine ⟨HKO.out.from _, HS.out.keeps HS2.out HKO.out.size, .slice a' n' c', aa, an, ac, ?_, ?_⟩
      · rw [HCS.out, HGS.out, Bool.false_and, Bool.or_false]
        have e : AL = [] := HAL.out.symm
        rw [show (if false = true then lastU [] ((pre ++ [x]).map Pc.l) else []) = AL by rw [e]; rfl]
        exact HS2.out
      · rw [List.length_append]
        exact HIS.out
    | true =>
      gi_wp2_with (gi_at_builtin; refine wpListIn_append_bts _ rfl _ _ 22 rfl A 5 i0 Tryd.underlying22 hi hz0 hz1 hz2 _ C rfl HS.out.own x.a x.n x.c x.l rfl HB.out (by omega) hAW ?_; intro v' w' ho' hgrow hat; obtain ⟨a', n', c', rfl⟩ := own8_sl ho'; obtain ⟨hv1, hS2, hb2, hap2, hko⟩ := HS.out.app HBK.out HE.out HB.out HAP.out ho' hgrow hat; have cv1 := hv1.cell; have fv1 := hv1.frozen; have co2 := hS2.ho.cell; have ca2 : (w'.setCell ⟨A + 1, 0, none⟩ (.slice a' n' c')).cell? ⟨A + 1 + 1, 0, none⟩ = some (.slice aa an ac) := hS2.ha.cell; have fa2 : (w'.setCell ⟨A + 1, 0, none⟩ (.slice a' n' c')).frozen? ⟨A + 1 + 1, 0, none⟩ = false := hS2.ha.frozen; have cp2 := hS2.hp.cell; have cx2 := hS2.cell.cell; have fx2 := hS2.cell.frozen; have HS2 := Lib.hid hS2; have HB2 := Lib.hid hb2; have HAP2 := Lib.hid hap2; have HKO := Lib.hid hko; clear ho' hgrow hat hv1 hS2 hb2 hap2 hko)
      refine ⟨trivial, ?_⟩
      refine (CallsIn.inRound lp (callsIn_wide.2 (ocmp_any aa x.a an ac x.n x.c AL x.l _ HS2.out.bts HB2.out))).mono ?_
      rintro e w2 ⟨rfl, rfl⟩
      generalize hrr : Lib.compareBytes AL x.l = r at *
      have HRR := Lib.hid hrr
      clear hrr
      by_cases hr : 0 < r
      · have HS3 := Lib.hid (HS2.out.fell HBK.out)
        have ca3 : ((w'.setCell ⟨A + 1, 0, none⟩ (.slice a' n' c')).setCell ⟨wb, 0, none⟩ (.bool true)).cell? ⟨A + 1 + 1, 0, none⟩ = some (.slice aa an ac) := HS3.out.ha.cell
        have fa3 : ((w'.setCell ⟨A + 1, 0, none⟩ (.slice a' n' c')).setCell ⟨wb, 0, none⟩ (.bool true)).frozen? ⟨A + 1 + 1, 0, none⟩ = false := HS3.out.ha.frozen
        have hr2 : decide (0 < r) = true := decide_eq_true hr
        gi_wp2_with fail
        have hs3 := HS3.out.next HBK.out HE.out (pa := x.a) (pn := x.n) (pc := x.c) (pl := x.l) (HB2.out.heap (by simp [World.setCell]) fun hp ad e => Below.heap_setCell _ ⟨wb, 0, none⟩ _ _ (HB2.out.ne_box hp HS2.out.cell (fun _ => by intro e; cases e) ad e)) HAP2.out
        have hko3 : KeepsOthers W (((w'.setCell ⟨A + 1, 0, none⟩ (.slice a' n' c')).setCell ⟨wb, 0, none⟩ (.bool true)).setCell ⟨A + 2, 0, none⟩ (.slice x.a x.n x.c)) := (HKO.out.trans (KeepsOthers.setCell _ _ _)).trans (KeepsOthers.setCell _ _ _)
        refine ⟨hko3.from _, HS.out.keeps hs3 hko3.size, .slice a' n' c', x.a, x.n, x.c, ?_, ?_⟩
        · rw [HCS.out, HGS.out, show lastU [] (pre.map Pc.l) = AL from HAL.out, HRR.out, hr2, Bool.true_and, Bool.or_true]
          rw [show (if true = true then lastU [] ((pre ++ [x]).map Pc.l) else []) = x.l from HDN.out]
          exact hs3
        · rw [List.length_append]
          exact HIS.out
      · have hr2 : decide (0 < r) = false := decide_eq_false hr
        gi_wp2_with fail
        have hs3 := HS2.out.next HBK.out HE.out (pa := x.a) (pn := x.n) (pc := x.c) (pl := x.l) HB2.out HAP2.out
        have hko3 : KeepsOthers W ((w'.setCell ⟨A + 1, 0, none⟩ (.slice a' n' c')).setCell ⟨A + 2, 0, none⟩ (.slice x.a x.n x.c)) := HKO.out.trans (KeepsOthers.setCell _ _ _)
        refine ⟨hko3.from _, HS.out.keeps hs3 hko3.size, .slice a' n' c', x.a, x.n, x.c, ?_, ?_⟩
        · rw [HCS.out, HGS.out, show lastU [] (pre.map Pc.l) = AL from HAL.out, HRR.out, hr2, Bool.true_and, Bool.or_false]
          rw [show (if true = true then lastU [] ((pre ++ [x]).map Pc.l) else []) = x.l from HDN.out]
          exact hs3
        · rw [List.length_append]
          exact HIS.out
  · rintro D xs W hD hxs ⟨v, aa, an, ac, hS, his⟩ hK
    obtain ⟨va, vn, vc, rfl⟩ := own8_sl hS.own
    obtain ⟨hcat, hfal⟩ := pcsT_all hxs HF.out
    have hg : gF f ord xs = (f || T.falls) := by rw [← HORD.out]; exact hfal f
    have hlen := HLN.out _ _ his
    rw [hg] at hS
    have hdv : T.der = UInt8.ofNat (fstN T.cls T.tag T.cons) :: (lenU vn ++ catP xs) ∧ vn = (catP xs).length := by
      have e1 : vn = (catP xs).length := (hS.own.cap).1
      refine ⟨?_, e1⟩
      rw [e1, hcat]
      obtain ⟨c, t, k, l, ks⟩ := T
      simp only [Tr.der, Tr.cls, Tr.tag, Tr.cons, Tr.b, Tr.kids, List.length_append, derL_length]
      simp [u8s]
    generalize catP xs = C at *
    have hcx := HCA.out.below hS.below HCA.out.lt
    have hnd := HN.out
    have hf1 : 0 ≤ V.cls ∧ V.cls ≤ 3 ∧ 0 ≤ V.tag ∧ V.tag ≤ 30 := by
      have h1 := HF.out
      have h2 := hnd.cls
      have h3 := hnd.tag
      obtain ⟨c, t, k, l, ks⟩ := T
      obtain ⟨⟨a1, a2, a3, a4, -⟩, -⟩ := h1
      simp only [Tr.cls, Tr.tag] at h2 h3
      rw [← h2, ← h3]
      exact ⟨a1, a2, a3, a4⟩
    rw [hnd.cls, hnd.tag, hnd.cons] at hdv
    have HDV := Lib.hid hdv.1
    have hvn : vn ≤ 11000000 := by rw [hdv.2]; exact hlen
    have HVN := Lib.hid hdv.2
    have p0 := hcx.c0
    have p1 := hcx.c1
    have p2 := hcx.c2
    obtain ⟨xc, xt, xk, xba, xbl, xbc, xka, xkl, xkc⟩ := V
    dsimp only at p0 p1 p2 hf1 HDV
    obtain ⟨nc, rfl⟩ : ∃ n : Nat, xc = (n : Int) := ⟨xc.toNat, by omega⟩
    obtain ⟨nt, rfl⟩ : ∃ n : Nat, xt = (n : Int) := ⟨xt.toNat, by omega⟩
    obtain ⟨m, hm⟩ : ∃ m, m = 64 * nc := ⟨_, rfl⟩
    obtain ⟨q, hq⟩ : ∃ q, q = m + nt := ⟨_, rfl⟩
    have w1 : IntKind.i64.wrap ((nc : Int) * 64) = (m : Int) := by rw [IntKind.wrap_i64]; omega
    have w2 : IntKind.i64.wrap ((m : Int) + (nt : Int)) = (q : Int) := by rw [IntKind.wrap_i64]; omega
    have w3 : IntKind.u8.wrap (q : Int) = (q : Int) := by rw [IntKind.wrap_u8]; omega
    have hfk : fstN (nc : Int) (nt : Int) xk = q + (if xk then 32 else 0) := by unfold fstN; rw [Int.toNat_natCast, Int.toNat_natCast, hq, hm]
    rw [hfk] at HDV
    have hq222 : q ≤ 222 := by omega
    have cv := hS.hv.cell
    have HS := Lib.hid hS
    have HK := Lib.hid hK
    have HDW := Lib.hid (show D < W.heap.size from (Array.getElem?_eq_some_iff.1 hK).1)
    have HAW := Lib.hid (show A ≤ W.heap.size by have := hS.hv.lt; omega)
    have HAD := Lib.hid (show A ≤ D by have := HBK.out.o; have := HBK.out.w; have := HBK.out.t; have := HZ6.out.1; omega)
    clear hS hK hcat hfal hg hlen hdv hcx hnd hf1 hfk hm hq his hxs hD zt zw hbel6
    gi_wp2_with fail
    go_wp2_with fail
    refine (wpIn_wide (n := 3)).1 ?_
    refine wpIn_cutX (fun Y => Y = W.drew) ?_
    apply Exists.intro
    apply And.intro
    case left =>
      refine wpIn_wide.2 ?_
      refine wp_region_held_drew (S := fun Y => Y.cell? ⟨b, off, none⟩ = some (.int .i64 (nc : Int)) ∧ Y.cell? ⟨b, off + 1, none⟩ = some (.int .i64 (nt : Int))) (by kernel_rfl) ⟨p0, p1⟩ (fun hHeld => ?_)
      try simp only [Act.put, List.setIfInBounds_toArray, List.set_cons_zero, List.set_cons_succ]
      refine' tk (hQ := fun _ _ _ h => by cases h.1) 0 ?_
      try simp only [Act.put, List.setIfInBounds_toArray, List.set_cons_zero, List.set_cons_succ]
      refine' tk (hQ := fun _ _ _ h => by cases h.1) 1 ?_
      try simp only [Act.put, List.setIfInBounds_toArray, List.set_cons_zero, List.set_cons_succ]
      refine' tk (hQ := fun _ _ _ h => by cases h.1) 2 ?_
      try simp only [Act.put, List.setIfInBounds_toArray, List.set_cons_zero, List.set_cons_succ]
      refine' tk (hQ := fun _ _ _ h => by cases h.1) 3 ?_
      try simp only [Act.put, List.setIfInBounds_toArray, List.set_cons_zero, List.set_cons_succ]
      refine' tk (hQ := fun _ _ _ h => by cases h.1) 4 ?_
      try simp only [Act.put, List.setIfInBounds_toArray, List.set_cons_zero, List.set_cons_succ]
      refine' tk (hQ := fun _ _ _ h => by cases h.1) 5 ?_
      try simp only [Act.put, List.setIfInBounds_toArray, List.set_cons_zero, List.set_cons_succ]
      refine' tk (hQ := fun _ _ _ h => by cases h.1) 6 ?_
      try simp only [Act.put, List.setIfInBounds_toArray, List.set_cons_zero, List.set_cons_succ]
      refine' tk (hQ := fun _ _ _ h => by cases h.1) 7 ?_
      try simp only [Act.put, List.setIfInBounds_toArray, List.set_cons_zero, List.set_cons_succ]
      refine' tk (hQ := fun _ _ _ h => by cases h.1) 8 ?_
      try simp only [Act.put, List.setIfInBounds_toArray, List.set_cons_zero, List.set_cons_succ]
      refine' tk (hQ := fun _ _ _ h => by cases h.1) 9 ?_
      try simp only [Act.put, List.setIfInBounds_toArray, List.set_cons_zero, List.set_cons_succ]
      refine' tk (hQ := fun _ _ _ h => by cases h.1) 10 ?_
      try simp only [Act.put, List.setIfInBounds_toArray, List.set_cons_zero, List.set_cons_succ]
      refine' tk (hQ := fun _ _ _ h => by cases h.1) 11 ?_
      try simp only [Act.put, List.setIfInBounds_toArray, List.set_cons_zero, List.set_cons_succ]
      refine wpAnyH_done (by kernel_rfl) ?_ _
      exact ⟨rfl, rfl, rfl⟩
    case right =>
      rintro Y rfl
      clear w1 w2 w3 p0 p1
      obtain ⟨r, hr⟩ : ∃ r, r = q + (if xk then 32 else 0) := ⟨_, rfl⟩
      rw [← hr] at HDV
      have hr256 : r < 256 := by rw [hr]; split <;> omega
      have HFIN := Lib.hid (fun (a' : Act) (X : World) (h : Fin13 D A T W a' X) => h)
      cases xk with
      | true =>
        obtain rfl : r = q + 32 := hr
        have w4 : IntKind.u8.wrap ((q : Int) + 32) = ((q + 32 : Nat) : Int) := by rw [IntKind.wrap_u8]; omega
        go_wp2_with fail
        refine (wpIn_wide (n := 3)).1 ?_
        refine wpIn_mono (Q := fun ex a' X => ex = .normal ∧ Fin13 D A T W a' X) ?_ ?_
        · refine wpIn_wide.2 ?_
          refine wp_region_held_drew (S := fun Y => Y.cell? ⟨A + 1, 0, none⟩ = some (.slice va vn vc)) (by kernel_rfl) cv (fun hHeld => ?_)
          try simp only [Act.put, List.setIfInBounds_toArray, List.set_cons_zero, List.set_cons_succ]
          refine' tk (hQ := fun _ _ _ h => by cases h.1) 0 ?_
          try simp only [Act.put, List.setIfInBounds_toArray, List.set_cons_zero, List.set_cons_succ]
          refine' tk (hQ := fun _ _ _ h => by cases h.1) 2 ?_
          try simp only [Act.put, List.setIfInBounds_toArray, List.set_cons_zero, List.set_cons_succ]
          refine' tk (hQ := fun _ _ _ h => by cases h.1) 3 ?_
          try simp only [Act.put, List.setIfInBounds_toArray, List.set_cons_zero, List.set_cons_succ]
          refine' tk (hQ := fun _ _ _ h => by cases h.1) 5 ?_
          try simp only [Act.put, List.setIfInBounds_toArray, List.set_cons_zero, List.set_cons_succ]
          refine wpAnyH_ready (rs := [1, 4]) (by kernel_rfl) (by simp) ?_
          refine AllReadyH.cons (o := _) rfl (fun K hK => ?_) (AllReadyH.cons (o := _) rfl (fun K hK => ?_) AllReadyH.nil)
          · try simp only [List.getElem_toArray, List.getElem_cons_succ, List.getElem_cons_zero]
            go_simp
            have hb0 : Below W.heap.size W (W.drew.drew.alloc (.cells #[.int .u8 ((q : Int) + 32)] 5)) := ((Below.refl _ W).drew.drew).alloc (Nat.le_refl _) _
            have hl0 : Bts (W.drew.drew.alloc (.cells #[.int .u8 ((q : Int) + 32)] 5)) (some ⟨W.heap.size, 0, none⟩) 1 1 [UInt8.ofNat (q + 32)] := Bts.one W.drew.drew _ _ _ (by rw [UInt8.toNat_ofNat']; omega)
            have hv0 := HS.out.own.bts.below hb0
            refine hK.out _ _ ((hb0.cell (p := ⟨A + 1, 0, none⟩) HS.out.hv.lt).trans cv) (fun hHeld => ?_)
            clear hK K
            try simp only [Act.put, List.setIfInBounds_toArray, List.set_cons_zero, List.set_cons_succ]
            refine' tr 4 (fun K hK => ?_)
            try simp only [List.getElem_toArray, List.getElem_cons_succ, List.getElem_cons_zero]
            go_simp
            refine (length_any (vn : Int) (by omega) _).mono ?_
            rintro e w1 ⟨⟨v1, rfl, ho1⟩, hb1⟩
            rw [if_neg (by omega), Int.toNat_natCast] at ho1
            obtain ⟨la, ln, lc, rfl⟩ := own8_sl ho1
            have hc0 := hl0.below hb1
            have hc1 := ho1.bts
            have hc2 := hv0.below hb1
            have hbw : Below W.heap.size W w1 := hb0.trans (hb1.mono hb0.size)
            refine hK.out _ _ ((hbw.cell (p := ⟨A + 1, 0, none⟩) HS.out.hv.lt).trans cv) (fun hHeld => ?_)
            clear hK K
            try simp only [Act.put, List.setIfInBounds_toArray, List.set_cons_zero, List.set_cons_succ]
            refine' tr 6 (fun K hK => ?_)
            try simp only [List.getElem_toArray, List.getElem_cons_succ, List.getElem_cons_zero]
            go_simp
            have hrw := rows2_lit3 w1 22 (some ⟨W.heap.size, 0, none⟩, 1, 1, [UInt8.ofNat (q + 32)]) (la, ln, lc, lenU vn) (va, vn, vc, C) hc0 hc1 hc2
            have hbx : Below W.heap.size W (w1.alloc (.cells #[.slice (some ⟨W.heap.size, 0, none⟩) 1 1, .slice la ln lc, .slice va vn vc] 22)) := hbw.alloc hbw.size _
            dsimp only at hrw
            try rw [World.size_alloc] at hrw
            refine hK.out _ _ ((hbx.cell (p := ⟨A + 1, 0, none⟩) HS.out.hv.lt).trans cv) (fun hHeld => ?_)
            clear hK K
            try simp only [Act.put, List.setIfInBounds_toArray, List.set_cons_zero, List.set_cons_succ]
            refine' tr 7 (fun K hK => ?_)
            try simp only [List.getElem_toArray, List.getElem_cons_succ, List.getElem_cons_zero]
            go_simp
            refine (join_any _ 3 3 _ _ hrw (by have h1 := lenU_le vn; have h2 := HVN.out; simp only [joined, List.flatMap_cons, List.flatMap_nil, List.length_append, List.length_cons, List.length_nil]; omega)).mono ?_
            rintro e w2 ⟨⟨v2, rfl, ho2⟩, hb2⟩
            rw [show joined [(some ⟨W.heap.size, 0, none⟩, 1, 1, [UInt8.ofNat (q + 32)]), (la, ln, lc, lenU vn), (va, vn, vc, C)] = T.der by rw [HDV.out]; simp [joined]] at ho2
            obtain ⟨ja, jn, jc, rfl⟩ := own8_sl ho2
            have hbz : Below W.heap.size W w2 := hbx.trans (hb2.mono hbx.size)
            refine hK.out _ _ ((hbz.cell (p := ⟨A + 1, 0, none⟩) HS.out.hv.lt).trans cv) (fun hHeld => ?_)
            clear hK K
            try simp only [Act.put, List.setIfInBounds_toArray, List.set_cons_zero, List.set_cons_succ]
            refine' tk (hQ := fun _ _ _ h => by cases h.1) 8 ?_
            try simp only [Act.put, List.setIfInBounds_toArray, List.set_cons_zero, List.set_cons_succ]
            refine wpAnyH_done (by kernel_rfl) ?_ _
            exact ⟨rfl, rfl, ⟨_, rfl, ho2.mono (Nat.le_trans HAW.out hbx.size)⟩, hbz⟩
          · try simp only [List.getElem_toArray, List.getElem_cons_succ, List.getElem_cons_zero]
            go_simp
            have hb0 : Below W.heap.size W W.drew.drew := (Below.refl _ W).drew.drew
            have hv0 := HS.out.own.bts.below hb0
            refine (length_any (vn : Int) (by omega) _).mono ?_
            rintro e w1 ⟨⟨v1, rfl, ho1⟩, hb1⟩
            rw [if_neg (by omega), Int.toNat_natCast] at ho1
            obtain ⟨la, ln, lc, rfl⟩ := own8_sl ho1
            have hbw0 : Below W.heap.size W w1 := hb0.trans (hb1.mono hb0.size)
            have hb2 : Below w1.heap.size w1 (w1.alloc (.cells #[.int .u8 ((q : Int) + 32)] 5)) := (Below.refl _ w1).alloc (Nat.le_refl _) _
            have hc0 : Bts (w1.alloc (.cells #[.int .u8 ((q : Int) + 32)] 5)) (some ⟨w1.heap.size, 0, none⟩) 1 1 [UInt8.ofNat (q + 32)] := Bts.one w1 _ _ _ (by rw [UInt8.toNat_ofNat']; omega)
            have hc1 := ho1.bts.below hb2
            have hc2 := (hv0.below hb1).below hb2
            have hbw := hbw0.trans (hb2.mono hbw0.size)
            refine hK.out _ _ ((hbw0.cell (p := ⟨A + 1, 0, none⟩) HS.out.hv.lt).trans cv) (fun hHeld => ?_)
            clear hK K
            try simp only [Act.put, List.setIfInBounds_toArray, List.set_cons_zero, List.set_cons_succ]
            refine' tr 1 (fun K hK => ?_)
            try simp only [List.getElem_toArray, List.getElem_cons_succ, List.getElem_cons_zero]
            go_simp
            refine hK.out _ _ ((hbw.cell (p := ⟨A + 1, 0, none⟩) HS.out.hv.lt).trans cv) (fun hHeld => ?_)
            clear hK K
            try simp only [Act.put, List.setIfInBounds_toArray, List.set_cons_zero, List.set_cons_succ]
            refine' tr 6 (fun K hK => ?_)
            try simp only [List.getElem_toArray, List.getElem_cons_succ, List.getElem_cons_zero]
            go_simp
            have hrw := rows2_lit3 (w1.alloc (.cells #[.int .u8 ((q : Int) + 32)] 5)) 22 (some ⟨w1.heap.size, 0, none⟩, 1, 1, [UInt8.ofNat (q + 32)]) (la, ln, lc, lenU vn) (va, vn, vc, C) hc0 hc1 hc2
            have hbx : Below W.heap.size W ((w1.alloc (.cells #[.int .u8 ((q : Int) + 32)] 5)).alloc (.cells #[.slice (some ⟨w1.heap.size, 0, none⟩) 1 1, .slice la ln lc, .slice va vn vc] 22)) := hbw.alloc hbw.size _
            dsimp only at hrw
            try rw [World.size_alloc] at hrw
            refine hK.out _ _ ((hbx.cell (p := ⟨A + 1, 0, none⟩) HS.out.hv.lt).trans cv) (fun hHeld => ?_)
            clear hK K
            try simp only [Act.put, List.setIfInBounds_toArray, List.set_cons_zero, List.set_cons_succ]
            refine' tr 7 (fun K hK => ?_)
            try simp only [List.getElem_toArray, List.getElem_cons_succ, List.getElem_cons_zero]
            go_simp
            refine (join_any _ 3 3 _ _ hrw (by have h1 := lenU_le vn; have h2 := HVN.out; simp only [joined, List.flatMap_cons, List.flatMap_nil, List.length_append, List.length_cons, List.length_nil]; omega)).mono ?_
            rintro e w2 ⟨⟨v2, rfl, ho2⟩, hb2⟩
            rw [show joined [(some ⟨w1.heap.size, 0, none⟩, 1, 1, [UInt8.ofNat (q + 32)]), (la, ln, lc, lenU vn), (va, vn, vc, C)] = T.der by rw [HDV.out]; simp [joined]] at ho2
            obtain ⟨ja, jn, jc, rfl⟩ := own8_sl ho2
            have hbz : Below W.heap.size W w2 := hbx.trans (hb2.mono hbx.size)
            refine hK.out _ _ ((hbz.cell (p := ⟨A + 1, 0, none⟩) HS.out.hv.lt).trans cv) (fun hHeld => ?_)
            clear hK K
            try simp only [Act.put, List.setIfInBounds_toArray, List.set_cons_zero, List.set_cons_succ]
            refine' tk (hQ := fun _ _ _ h => by cases h.1) 8 ?_
            try simp only [Act.put, List.setIfInBounds_toArray, List.set_cons_zero, List.set_cons_succ]
            refine wpAnyH_done (by kernel_rfl) ?_ _
            exact ⟨rfl, rfl, ⟨_, rfl, ho2.mono (Nat.le_trans HAW.out hbx.size)⟩, hbz⟩
        · rintro e ⟨tm, df⟩ X ⟨rfl, hfin⟩
          obtain ⟨hdf, ⟨v4, hv4, ho4⟩, hb4⟩ := hfin
          dsimp only at hdf hv4
          subst hdf
          have hKX : X.heap[D]? = some (.deferred (some [])) := (hb4.block D HDW.out).trans HK.out
          have HV4 := Lib.hid hv4
          have HO4 := Lib.hid ho4
          have HB4 := Lib.hid hb4
          clear hv4 ho4 hb4 cv
          go_wp2_with fail
          rw [Exit.noGoto_ret]
          refine ⟨by simp, .inl ⟨_, _, rfl, run_takeDeferred hKX, ?_⟩⟩
          have hgr := grownBy_putObj' X D (.deferred none)
          have hrow : ∀ r, some D = some r → ∃ o : Obj, X.heap[r]? = some o ∧ o.isCells = false := fun r e => by cases e; exact ⟨_, hKX, rfl⟩
          refine ⟨v4, (results_tmp rfl _ _ _).trans ?_, ⟨_, rfl, ?_⟩, ?_, ?_, ?_⟩
          · rw [Array.getD_eq_getD_getElem?, HV4.out]; rfl
          · rw [HA.out]
            exact HO4.out.keptD hgr hrow
          · exact boxed_keptD (show Boxed X wb 57 (.bool (f || T.falls)) from (HB4.out.block _ HS.out.cell.lt).trans HS.out.cell) hgr hrow
          · refine ⟨Nat.le_trans HS.out.kp.1 (Nat.le_trans HB4.out.size hgr.size), fun k hk hn => ?_⟩
            have hkA : k < A := by rw [← HA.out]; exact hk
            exact (World.putObj_heap_other (by have := HAD.out; omega)).trans ((HB4.out.block k (Nat.lt_of_lt_of_le hk HS.out.kp.1)).trans (HS.out.kp.2 k hk hn))
          · refine below_back HBEL.out ((HS.out.below.trans (HB4.out.mono HS.out.below.size)).grown hgr (Nat.le_trans HS.out.below.size HB4.out.size) (fun r e => ?_)) (Nat.le_trans HS.out.kp.1 (Nat.le_trans HB4.out.size hgr.size))
            have h1 := HAD.out
            have h2 := HZ6.out.2
            cases e
            omega
      | false =>
        obtain rfl : r = q := hr
        go_wp2_with fail
        refine (wpIn_wide (n := 3)).1 ?_
        refine wpIn_mono (Q := fun ex a' X => ex = .normal ∧ Fin13 D A T W a' X) ?_ ?_
        · refine wpIn_wide.2 ?_
          refine wp_region_held_drew (S := fun Y => Y.cell? ⟨A + 1, 0, none⟩ = some (.slice va vn vc)) (by kernel_rfl) cv (fun hHeld => ?_)
          try simp only [Act.put, List.setIfInBounds_toArray, List.set_cons_zero, List.set_cons_succ]
          refine' tk (hQ := fun _ _ _ h => by cases h.1) 0 ?_
          try simp only [Act.put, List.setIfInBounds_toArray, List.set_cons_zero, List.set_cons_succ]
          refine' tk (hQ := fun _ _ _ h => by cases h.1) 2 ?_
          try simp only [Act.put, List.setIfInBounds_toArray, List.set_cons_zero, List.set_cons_succ]
          refine' tk (hQ := fun _ _ _ h => by cases h.1) 3 ?_
          try simp only [Act.put, List.setIfInBounds_toArray, List.set_cons_zero, List.set_cons_succ]
          refine' tk (hQ := fun _ _ _ h => by cases h.1) 5 ?_
          try simp only [Act.put, List.setIfInBounds_toArray, List.set_cons_zero, List.set_cons_succ]
          refine wpAnyH_ready (rs := [1, 4]) (by kernel_rfl) (by simp) ?_
          refine AllReadyH.cons (o := _) rfl (fun K hK => ?_) (AllReadyH.cons (o := _) rfl (fun K hK => ?_) AllReadyH.nil)
          · try simp only [List.getElem_toArray, List.getElem_cons_succ, List.getElem_cons_zero]
            go_simp
            have hb0 : Below W.heap.size W (W.drew.drew.alloc (.cells #[.int .u8 (r : Int)] 5)) := ((Below.refl _ W).drew.drew).alloc (Nat.le_refl _) _
            have hl0 : Bts (W.drew.drew.alloc (.cells #[.int .u8 (r : Int)] 5)) (some ⟨W.heap.size, 0, none⟩) 1 1 [UInt8.ofNat (r)] := Bts.one W.drew.drew _ _ _ (by rw [UInt8.toNat_ofNat']; omega)
            have hv0 := HS.out.own.bts.below hb0
            refine hK.out _ _ ((hb0.cell (p := ⟨A + 1, 0, none⟩) HS.out.hv.lt).trans cv) (fun hHeld => ?_)
            clear hK K
            try simp only [Act.put, List.setIfInBounds_toArray, List.set_cons_zero, List.set_cons_succ]
            refine' tr 4 (fun K hK => ?_)
            try simp only [List.getElem_toArray, List.getElem_cons_succ, List.getElem_cons_zero]
            go_simp
            refine (length_any (vn : Int) (by omega) _).mono ?_
            rintro e w1 ⟨⟨v1, rfl, ho1⟩, hb1⟩
            rw [if_neg (by omega), Int.toNat_natCast] at ho1
            obtain ⟨la, ln, lc, rfl⟩ := own8_sl ho1
            have hc0 := hl0.below hb1
            have hc1 := ho1.bts
            have hc2 := hv0.below hb1
            have hbw : Below W.heap.size W w1 := hb0.trans (hb1.mono hb0.size)
            refine hK.out _ _ ((hbw.cell (p := ⟨A + 1, 0, none⟩) HS.out.hv.lt).trans cv) (fun hHeld => ?_)
            clear hK K
            try simp only [Act.put, List.setIfInBounds_toArray, List.set_cons_zero, List.set_cons_succ]
            refine' tr 6 (fun K hK => ?_)
            try simp only [List.getElem_toArray, List.getElem_cons_succ, List.getElem_cons_zero]
            go_simp
            have hrw := rows2_lit3 w1 22 (some ⟨W.heap.size, 0, none⟩, 1, 1, [UInt8.ofNat (r)]) (la, ln, lc, lenU vn) (va, vn, vc, C) hc0 hc1 hc2
            have hbx : Below W.heap.size W (w1.alloc (.cells #[.slice (some ⟨W.heap.size, 0, none⟩) 1 1, .slice la ln lc, .slice va vn vc] 22)) := hbw.alloc hbw.size _
            dsimp only at hrw
            try rw [World.size_alloc] at hrw
            refine hK.out _ _ ((hbx.cell (p := ⟨A + 1, 0, none⟩) HS.out.hv.lt).trans cv) (fun hHeld => ?_)
            clear hK K
            try simp only [Act.put, List.setIfInBounds_toArray, List.set_cons_zero, List.set_cons_succ]
            refine' tr 7 (fun K hK => ?_)
            try simp only [List.getElem_toArray, List.getElem_cons_succ, List.getElem_cons_zero]
            go_simp
            refine (join_any _ 3 3 _ _ hrw (by have h1 := lenU_le vn; have h2 := HVN.out; simp only [joined, List.flatMap_cons, List.flatMap_nil, List.length_append, List.length_cons, List.length_nil]; omega)).mono ?_
            rintro e w2 ⟨⟨v2, rfl, ho2⟩, hb2⟩
            rw [show joined [(some ⟨W.heap.size, 0, none⟩, 1, 1, [UInt8.ofNat (r)]), (la, ln, lc, lenU vn), (va, vn, vc, C)] = T.der by rw [HDV.out]; simp [joined]] at ho2
            obtain ⟨ja, jn, jc, rfl⟩ := own8_sl ho2
            have hbz : Below W.heap.size W w2 := hbx.trans (hb2.mono hbx.size)
            refine hK.out _ _ ((hbz.cell (p := ⟨A + 1, 0, none⟩) HS.out.hv.lt).trans cv) (fun hHeld => ?_)
            clear hK K
            try simp only [Act.put, List.setIfInBounds_toArray, List.set_cons_zero, List.set_cons_succ]
            refine' tk (hQ := fun _ _ _ h => by cases h.1) 8 ?_
            try simp only [Act.put, List.setIfInBounds_toArray, List.set_cons_zero, List.set_cons_succ]
            refine wpAnyH_done (by kernel_rfl) ?_ _
            exact ⟨rfl, rfl, ⟨_, rfl, ho2.mono (Nat.le_trans HAW.out hbx.size)⟩, hbz⟩
          · try simp only [List.getElem_toArray, List.getElem_cons_succ, List.getElem_cons_zero]
            go_simp
            have hb0 : Below W.heap.size W W.drew.drew := (Below.refl _ W).drew.drew
            have hv0 := HS.out.own.bts.below hb0
            refine (length_any (vn : Int) (by omega) _).mono ?_
            rintro e w1 ⟨⟨v1, rfl, ho1⟩, hb1⟩
            rw [if_neg (by omega), Int.toNat_natCast] at ho1
            obtain ⟨la, ln, lc, rfl⟩ := own8_sl ho1
            have hbw0 : Below W.heap.size W w1 := hb0.trans (hb1.mono hb0.size)
            have hb2 : Below w1.heap.size w1 (w1.alloc (.cells #[.int .u8 (r : Int)] 5)) := (Below.refl _ w1).alloc (Nat.le_refl _) _
            have hc0 : Bts (w1.alloc (.cells #[.int .u8 (r : Int)] 5)) (some ⟨w1.heap.size, 0, none⟩) 1 1 [UInt8.ofNat (r)] := Bts.one w1 _ _ _ (by rw [UInt8.toNat_ofNat']; omega)
            have hc1 := ho1.bts.below hb2
            have hc2 := (hv0.below hb1).below hb2
            have hbw := hbw0.trans (hb2.mono hbw0.size)
            refine hK.out _ _ ((hbw0.cell (p := ⟨A + 1, 0, none⟩) HS.out.hv.lt).trans cv) (fun hHeld => ?_)
            clear hK K
            try simp only [Act.put, List.setIfInBounds_toArray, List.set_cons_zero, List.set_cons_succ]
            refine' tr 1 (fun K hK => ?_)
            try simp only [List.getElem_toArray, List.getElem_cons_succ, List.getElem_cons_zero]
            go_simp
            refine hK.out _ _ ((hbw.cell (p := ⟨A + 1, 0, none⟩) HS.out.hv.lt).trans cv) (fun hHeld => ?_)
            clear hK K
            try simp only [Act.put, List.setIfInBounds_toArray, List.set_cons_zero, List.set_cons_succ]
            refine' tr 6 (fun K hK => ?_)
            try simp only [List.getElem_toArray, List.getElem_cons_succ, List.getElem_cons_zero]
            go_simp
            have hrw := rows2_lit3 (w1.alloc (.cells #[.int .u8 (r : Int)] 5)) 22 (some ⟨w1.heap.size, 0, none⟩, 1, 1, [UInt8.ofNat (r)]) (la, ln, lc, lenU vn) (va, vn, vc, C) hc0 hc1 hc2
            have hbx : Below W.heap.size W ((w1.alloc (.cells #[.int .u8 (r : Int)] 5)).alloc (.cells #[.slice (some ⟨w1.heap.size, 0, none⟩) 1 1, .slice la ln lc, .slice va vn vc] 22)) := hbw.alloc hbw.size _
            dsimp only at hrw
            try rw [World.size_alloc] at hrw
            refine hK.out _ _ ((hbx.cell (p := ⟨A + 1, 0, none⟩) HS.out.hv.lt).trans cv) (fun hHeld => ?_)
            clear hK K
            try simp only [Act.put, List.setIfInBounds_toArray, List.set_cons_zero, List.set_cons_succ]
            refine' tr 7 (fun K hK => ?_)
            try simp only [List.getElem_toArray, List.getElem_cons_succ, List.getElem_cons_zero]
            go_simp
            refine (join_any _ 3 3 _ _ hrw (by have h1 := lenU_le vn; have h2 := HVN.out; simp only [joined, List.flatMap_cons, List.flatMap_nil, List.length_append, List.length_cons, List.length_nil]; omega)).mono ?_
            rintro e w2 ⟨⟨v2, rfl, ho2⟩, hb2⟩
            rw [show joined [(some ⟨w1.heap.size, 0, none⟩, 1, 1, [UInt8.ofNat (r)]), (la, ln, lc, lenU vn), (va, vn, vc, C)] = T.der by rw [HDV.out]; simp [joined]] at ho2
            obtain ⟨ja, jn, jc, rfl⟩ := own8_sl ho2
            have hbz : Below W.heap.size W w2 := hbx.trans (hb2.mono hbx.size)
            refine hK.out _ _ ((hbz.cell (p := ⟨A + 1, 0, none⟩) HS.out.hv.lt).trans cv) (fun hHeld => ?_)
            clear hK K
            try simp only [Act.put, List.setIfInBounds_toArray, List.set_cons_zero, List.set_cons_succ]
            refine' tk (hQ := fun _ _ _ h => by cases h.1) 8 ?_
            try simp only [Act.put, List.setIfInBounds_toArray, List.set_cons_zero, List.set_cons_succ]
            refine wpAnyH_done (by kernel_rfl) ?_ _
            exact ⟨rfl, rfl, ⟨_, rfl, ho2.mono (Nat.le_trans HAW.out hbx.size)⟩, hbz⟩
        · rintro e ⟨tm, df⟩ X ⟨rfl, hfin⟩
          obtain ⟨hdf, ⟨v4, hv4, ho4⟩, hb4⟩ := hfin
          dsimp only at hdf hv4
          subst hdf
          have hKX : X.heap[D]? = some (.deferred (some [])) := (hb4.block D HDW.out).trans HK.out
          have HV4 := Lib.hid hv4
          have HO4 := Lib.hid ho4
          have HB4 := Lib.hid hb4
          clear hv4 ho4 hb4 cv
          go_wp2_with fail
          rw [Exit.noGoto_ret]
          refine ⟨by simp, .inl ⟨_, _, rfl, run_takeDeferred hKX, ?_⟩⟩
          have hgr := grownBy_putObj' X D (.deferred none)
          have hrow : ∀ r, some D = some r → ∃ o : Obj, X.heap[r]? = some o ∧ o.isCells = false := fun r e => by cases e; exact ⟨_, hKX, rfl⟩
          refine ⟨v4, (results_tmp rfl _ _ _).trans ?_, ⟨_, rfl, ?_⟩, ?_, ?_, ?_⟩
          · rw [Array.getD_eq_getD_getElem?, HV4.out]; rfl
          · rw [HA.out]
            exact HO4.out.keptD hgr hrow
          · exact boxed_keptD (show Boxed X wb 57 (.bool (f || T.falls)) from (HB4.out.block _ HS.out.cell.lt).trans HS.out.cell) hgr hrow
          · refine ⟨Nat.le_trans HS.out.kp.1 (Nat.le_trans HB4.out.size hgr.size), fun k hk hn => ?_⟩
            have hkA : k < A := by rw [← HA.out]; exact hk
            exact (World.putObj_heap_other (by have := HAD.out; omega)).trans ((HB4.out.block k (Nat.lt_of_lt_of_le hk HS.out.kp.1)).trans (HS.out.kp.2 k hk hn))
          · refine below_back HBEL.out ((HS.out.below.trans (HB4.out.mono HS.out.below.size)).grown hgr (Nat.le_trans HS.out.below.size HB4.out.size) (fun r e => ?_)) (Nat.le_trans HS.out.kp.1 (Nat.le_trans HB4.out.size hgr.size))
            have h1 := HAD.out
            have h2 := HZ6.out.2
            cases e
            omega
  · rintro pre X X' row ⟨v, aa, an, ac, h, his⟩ hg hr
    exact ⟨v, aa, an, ac, h.stays (B := W6.heap.size) hg (by have := HBK.out.z; have := HBK.out.wb; have := HBK.out.o; have := HBK.out.w; have := HBK.out.t; have := HZ6.out; omega) (by have := HA.out; have := HBK.out.o; have := HBK.out.w; have := HBK.out.t; have := HZ6.out; omega) (fun r e => (hr r e).resolve_left id), his⟩
  · rintro ⟨pre, x⟩ X X' row ⟨v, aa, an, ac, h, hb, hap, his⟩ hg hr
    exact ⟨v, aa, an, ac, h.stays (B := W6.heap.size) hg (by have := HBK.out.z; have := HBK.out.wb; have := HBK.out.o; have := HBK.out.w; have := HBK.out.t; have := HZ6.out; omega) (by have := HA.out; have := HBK.out.o; have := HBK.out.w; have := HBK.out.t; have := HZ6.out; omega) (fun r e => (hr r e).resolve_left id), hb.keptD hg (fun r e => ((hr r e).resolve_left id).2), hap, his⟩
  · rintro pre x X X' hN ⟨v, aa, an, ac, h, his⟩ hm
    obtain ⟨h2, h3⟩ := h.made HBK.out hm
    exact ⟨v, aa, an, ac, h2, hm.bts, h3, take_is his hm.is⟩
  · rintro pre X ⟨v, aa, an, ac, h, his⟩
    exact ⟨⟨_, h.cell⟩, h.below⟩

theorem wr_ok : ∀ (n : Nat) (T : Tr), T.wt ≤ n → WrOk T
  | 0, T, h => by have := T.wt_pos; omega
  | n + 1, .mk c t k l ks, h => by
    simp only [Tr.wt] at h
    exact bytes_of (.mk c t k l ks) fun K hK => wr_ok n K (by have := wtL_mem (show K ∈ ks from hK); omega)
/-- writer.bytes. -/
theorem wbytes_any (T : Tr) : WrOk T := wr_ok T.wt T (Nat.le_refl _)

end Go.Proofs.YtkmphiakciihfaaDoor
