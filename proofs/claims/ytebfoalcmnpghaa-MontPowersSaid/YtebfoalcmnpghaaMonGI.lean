/-
  MERGED: MonG MonH MonI
-/
import Derived.Test.YtebfoalcmnpghaaMonDF
import Derived.Test.YtebfoalcmnpghaaDivE
import Derived.Deep.CutRange
import Derived.Deep.RegionHeld
import Derived.Laws.EntriesVeiled
namespace Go.Proofs.Ytebfoalcmnpghaa
open Go.RowKit Go.Shelf
attribute [local go_sem] Oper.semAt_some

theorem Reads.keptCells {q : IntKind} {W W' : World} {row : Option Nat} {a : Option Addr} {len cap : Nat} {l : List Nat} (h : Reads q W a len cap l) (hg : W.grownBy W' row) (hr : ∀ r, row = some r → ∃ o : Obj, W.heap[r]? = some o ∧ o.isCells = false) : Reads q W' a len cap l :=
  ⟨h.length, h.le, h.max, h.nil, fun hp => by
    obtain ⟨b, off, rfl, hb, hc⟩ := h.cells hp
    refine ⟨b, off, rfl, Nat.lt_of_lt_of_le hb hg.size, fun i hi => ?_⟩
    have h1 := hc i hi
    refine (World.cell?_of_block (hg.block b hb ?_)).trans h1
    intro e
    obtain ⟨o, ho, hcl⟩ := hr b e.symm
    simp only [World.cell?, ho] at h1
    cases o <;> simp_all [Obj.isCells]⟩

/-- What a round keeps: all below n₀, and a box. -/
def KpB (n₀ b : Nat) (W W' : World) : Prop := Below n₀ W W' ∧ ∀ t v, Boxed W b t v → Boxed W' b t v
theorem kpB_t {n₀ b : Nat} {A B C : World} (h : KpB n₀ b A B) (k : KpB n₀ b B C) : KpB n₀ b A C := ⟨h.1.trans k.1, fun t v x => k.2 t v (h.2 t v x)⟩
theorem kpB_b {n₀ b : Nat} {w : World} (hn : n₀ ≤ w.heap.size) (W : World) (l : Nat) (o o' : Obj) (hl : w.heap.size ≤ l) (h : W.heap[l]? = some o) (hc : o.isCells = false) (hw : o.isWalk = false) : KpB n₀ b W (W.putObj l o') :=
  ⟨belowK_b hn W l o o' hl h hc hw, fun _ _ x => boxed_putObj x l o o' h hc⟩

abbrev encB {m : Nat} (f : Nat → Bool) (x : Place m) : Array Value := #[.bool (f x.1)]

set_option maxRecDepth 100000 in
set_option maxHeartbeats 2000000 in
theorem bits_stops (n : Nat) (hn : 2 ≤ n) (n₀ b m K : Nat) (f : Nat → Bool) (a : Option Addr) (nk ck : Nat) (l : List Nat) (w : World) (hb : Boxed w b 23 (.slice a nk ck)) (hk : Reads .u32 w a nk ck l) (hL : Lim l) (hK : val32 l = K)
    (ha : 0 < nk → ∀ ad, a = some ad → ad.block < n₀) (hn₀ : n₀ ≤ w.heap.size) (hnk : nk ≤ 256) (hm : m = bitsN K) (hm2 : m ≤ 8192) (hf : ∀ i, f i = K.testBit i) :
    SeqStopsK Fence.wide n Try.prog 73 #[.pointer (some ⟨b, 0, none⟩)] (encB (m := m) f) (KpB n₀ b) (fun xs => xs.map (·.1) = falls m m) (fun _ => True) m w := fun lp J Jx W hW hJ hJx hY h0 => by
  have bX : Boxed W b 23 (.slice a nk ck) := (hW.block b hb.lt).trans hb
  have HKW := Lib.hid (hk.below hW)
  have hsW := Nat.le_trans hn₀ hW.size
  clear hb hk hn₀
  have cX := bX.cell
  have BX := Lib.hid bX
  have HL := Lib.hid hL
  have HM := Lib.hid hm
  have HF := Lib.hid hf
  have HKV := Lib.hid hK
  clear bX hL hm hf hK
  have HBT := Lib.hid (bits_nat (⟨a, nk, ck, l, rfl, HKW.out, HL.out, HKV.out⟩ : NatAt W (.slice a nk ck) K) (fun a' n' c' e => by cases e; omega) m HM.out)
  refine callsIn_of_wp Try.func73 rfl trivial ?_ rfl
  simp only [Try.ntmps73, List.size_toArray, List.length_cons, List.length_nil, Nat.reduceAdd, Nat.reduceSub, Array.replicate_succ, Array.replicate_zero, List.push_toArray, List.append_toArray, List.nil_append, List.cons_append]
  gi_wp2_with fail
  refine ⟨trivial, fun _ => by omega, ?_⟩
  refine (callsIn_wide.2 HBT.out).mono ?_
  rintro e w' ⟨rfl, rfl⟩
  clear HBT
  gi_wp2
  gi_loopw [3] (fun i wr => ∃ k : Nat, ((∃ j : Nat, i = .int .i64 j ∧ j + k + 1 = m) ∨ (i = .int .i64 (-1) ∧ k = m)) ∧ (∃ pre : List (Place m), Hid (pre.map (·.1) = falls m k ∧ J pre wr)) ∧ Hid (KpB n₀ b W wr)) (fun i _ => (intOf i + 1).toNat)
  case atStart => exact ⟨0, down_start m, ⟨[], rfl, h0⟩, Below.refl _ _, fun _ _ h => h⟩
  case round =>
    obtain ⟨k, hi, ⟨pre, hJs⟩, hkp⟩ := hrel
    rcases hi with ⟨j, rfl, hjk⟩ | ⟨rfl, hkm⟩
    · have HJK := Lib.hid hjk
      have hjm : j < m := by omega
      have hpl := Lib.hid (show pre.length = k by have := congrArg List.length hJs.out.1; simpa [falls_length] using this)
      have cX1 := (hkp.out.2 _ _ BX.out).cell
      have RK := Lib.hid (HKW.out.belowN ha hkp.out.1)
      have HBI := Lib.hid (bit_nat (⟨a, nk, ck, l, rfl, RK.out, HL.out, HKV.out⟩ : NatAt wr (.slice a nk ck) K) (j : Int) (by omega) (f j) (by rw [HF.out, Int.toNat_natCast, decide_eq_true (by omega), Bool.true_and]))
      obtain ⟨fn, tmps, assign, body, hy, hR⟩ := hY pre ⟨j, hjm⟩ wr hJs.out.2 (by rw [hpl.out]; omega)
      simp only [encB] at hy
      have hpm := Lib.hid (show (pre ++ [(⟨j, hjm⟩ : Place m)]).map (·.1) = falls m (k + 1) by rw [falls_succ m k j (by omega), List.map_append, hJs.out.1]; rfl)
      have HR := Lib.hid hR
      clear hjk hR
      generalize f j = bt at *
      gi_wp2_with fail
      refine ⟨trivial, fun _ => by omega, ?_⟩
      refine (callsIn_wide.2 HBI.out).mono ?_
      rintro e w' ⟨rfl, rfl⟩
      gi_wp2_with fail
      refine ⟨fun _ => by omega, ?_⟩
      refine HR.out.mono ?_
      rintro e W3 (⟨rfl, hJ1, hk3⟩ | ⟨rfl, hx1⟩)
      · have HJ1 := Lib.hid hJ1
        have HK3 := Lib.hid hk3
        clear hJ1 hk3
        gi_wp2
        go_roundw
        case rel => exact ⟨k + 1, down_next HJK.out, ⟨_, hpm.out, HJ1.out⟩, kpB_t hkp.out HK3.out⟩
        case measure => simp [intOf] <;> omega
      · have HX1 := Lib.hid hx1
        clear hx1
        gi_wp2
        refine bodyPost_ret (results_none rfl _ _ _) rfl ?_
        exact ⟨⟨_, rfl⟩, .inr ⟨_, trivial, HX1.out⟩⟩
    · have HKM := Lib.hid hkm
      clear hkm
      gi_wp2
      go_end0
      exact ⟨⟨_, rfl⟩, .inl ⟨pre, HKM.out ▸ hJs.out.1, hJs.out.2⟩⟩

theorem fallingB_any (w : World) (a : Option Addr) (n c : Nat) : Calls Try.prog 55 #[.slice a n c] w fun e w' => e = .returned (.func (.func 73) #[] #[.pointer (some ⟨w.heap.size, 0, none⟩)]) ∧ w' = w.alloc (.cells #[.slice a n c] 23) := by
  go_enter Try.func55, Try.ntmps55
  go_wp2
  go_ret
  exact ⟨rfl, rfl⟩

end Go.Proofs.Ytebfoalcmnpghaa

namespace Go.Proofs.Ytebfoalcmnpghaa
open Go.RowKit Go.Shelf
attribute [local go_sem] Oper.semAt_some

theorem pairA (w : World) (T T' : TypeId) (f v : Value) : Hid (Boxed ((w.alloc (.cells #[f] T)).alloc (.cells #[v] T')).drew w.heap.size T f ∧ Boxed ((w.alloc (.cells #[f] T)).alloc (.cells #[v] T')).drew (w.heap.size + 1) T' v ∧ w.heap.size ≠ w.heap.size + 1 ∧ w.heap.size ≤ w.heap.size ∧ w.heap.size ≤ w.heap.size + 1 ∧ Below w.heap.size w ((w.alloc (.cells #[f] T)).alloc (.cells #[v] T')).drew) := by
  refine ⟨(Boxed.new w T f).alloc (.cells #[v] T'), ?_, by omega, by omega, by omega, (((Below.refl w.heap.size w).alloc (Nat.le_refl _) _).alloc (by simp) _).drew⟩
  have h := Boxed.new (w.alloc (.cells #[f] T)) T' v
  simp only [World.size_alloc] at h
  exact h
theorem pairB (w : World) (T T' : TypeId) (f v : Value) : Hid (Boxed ((w.alloc (.cells #[v] T')).alloc (.cells #[f] T)).drew (w.heap.size + 1) T f ∧ Boxed ((w.alloc (.cells #[v] T')).alloc (.cells #[f] T)).drew w.heap.size T' v ∧ w.heap.size + 1 ≠ w.heap.size ∧ w.heap.size ≤ w.heap.size + 1 ∧ w.heap.size ≤ w.heap.size ∧ Below w.heap.size w ((w.alloc (.cells #[v] T')).alloc (.cells #[f] T)).drew) := by
  refine ⟨?_, (Boxed.new w T' v).alloc (.cells #[f] T), by omega, by omega, by omega, (((Below.refl w.heap.size w).alloc (Nat.le_refl _) _).alloc (by simp) _).drew⟩
  have h := Boxed.new (w.alloc (.cells #[v] T')) T f
  simp only [World.size_alloc] at h
  exact h

/-- Between two bits. -/
def PowI (gS gP n M X K m : Nat) (pre : List (Place m)) (W : World) : Prop :=
  ∃ (pa : Option Addr) (pc Z : Nat), Boxed W gS 70 (.func (.func 54) #[] #[]) ∧ Boxed W gP 22 (.slice pa n pc) ∧ Reads .u32 W pa n pc (wideN n Z) ∧ Hid (∀ ad, pa = some ad → ad.block ≠ gP) ∧ Hid (Z < M ∧ (pre.map (·.1) = falls m pre.length → Z = X ^ (K / 2 ^ (m - pre.length)) * radix n % M))
theorem powI_own (gS gP n M X K m : Nat) : Own (PowI gS gP n M X K m) := fun s A B row hs hg hr => by
  obtain ⟨pa, pc, Z, h1, h2, h3, h4, h5⟩ := hs
  exact ⟨pa, pc, Z, Boxed.keptCells h1 hg hr, Boxed.keptCells h2 hg hr, Reads.keptCells h3 hg hr, h4, h5⟩
theorem below_keeps {W W' : World} (h : Below W.heap.size W W') : KeepsOthers W W' := ⟨h.size, fun k o hk _ => (h.block k (Array.getElem?_eq_some_iff.1 hk).1).trans hk⟩

theorem pow_zero_bits {K m : Nat} (h : m = bitsN K) : K / 2 ^ m = 0 := Nat.div_eq_of_lt ((bitsN_le K m).1 (by omega))
theorem pow_step0 {X K M n j : Nat} (hM : 2 ≤ M) (ho : M % 2 = 1) (hb : K.testBit j = false) : monN n M (X ^ (K / 2 ^ (j + 1)) * radix n % M * (X ^ (K / 2 ^ (j + 1)) * radix n % M)) = X ^ (K / 2 ^ j) * radix n % M := by
  rw [monN_both hM ho, ← Nat.pow_add]
  have h : K / 2 ^ j = K / 2 ^ (j + 1) + K / 2 ^ (j + 1) := by
    rw [Nat.testBit_eq_decide_div_mod_eq] at hb
    have hb2 := of_decide_eq_false hb
    rw [Nat.pow_succ, ← Nat.div_div_eq_div_mul]
    omega
  rw [h]
theorem pow_step1 {X K M n j : Nat} (hM : 2 ≤ M) (ho : M % 2 = 1) (hb : K.testBit j = true) : monN n M (monN n M (X ^ (K / 2 ^ (j + 1)) * radix n % M * (X ^ (K / 2 ^ (j + 1)) * radix n % M)) * (X * radix n % M)) = X ^ (K / 2 ^ j) * radix n % M := by
  rw [monN_both hM ho, monN_both hM ho, ← Nat.pow_add]
  have h : K / 2 ^ j = K / 2 ^ (j + 1) + K / 2 ^ (j + 1) + 1 := by
    rw [Nat.testBit_eq_decide_div_mod_eq] at hb
    have hb2 := of_decide_eq_true hb
    rw [Nat.pow_succ, ← Nat.div_div_eq_div_mul]
    omega
  rw [h, show X ^ (K / 2 ^ (j + 1) + K / 2 ^ (j + 1) + 1) = X ^ (K / 2 ^ (j + 1) + K / 2 ^ (j + 1)) * X from Nat.pow_succ ..]

set_option maxRecDepth 100000 in
set_option maxHeartbeats 4000000 in
theorem Power_main (p x kv : Value) (n M X K : Nat) (w : World) (hW : Whl w p n M) (hx : NatAt w x X) (hk : NatAt w kv K) (hX : X < topN) (hK : K < topN) :
    Calls Try.prog 24 #[p, x, kv] w fun e w' => RetsQ2 .u32 41 w.heap.size w' (nat32 (X ^ K % M), 0) e ∧ Below w.heap.size w w' := by
  obtain ⟨hn1, hn2, hMR, hMT, h3, hod⟩ := hW.val
  have HMR := Lib.hid hMR
  have HMN := Lib.hid (Nat.lt_of_lt_of_le hMT topM_le)
  have H3 := Lib.hid h3
  have HOD := Lib.hid hod
  obtain ⟨g, a, c, k, a1, c1, a2, c2, rfl, hC⟩ := hW
  have hb0 := (Below.refl w.heap.size w).alloc (Nat.le_refl _) (.cells #[.pointer (some ⟨g, 0, none⟩)] 27)
  have HC0 := Lib.hid (hC.below hb0)
  have NX := Lib.hid (hx.below hb0)
  have NK := Lib.hid (hk.below hb0)
  have HX := Lib.hid hX
  have HK := Lib.hid hK
  have F := Lib.hid hb0
  have bW := Lib.hid (Boxed.new w 27 (.pointer (some ⟨g, 0, none⟩)))
  have cW := bW.out.cell
  have hg0 := Lib.hid hC.lt
  clear hC hx hk hX hK hb0 hMR hMT h3 hod
  refine (callsIn_wide (n := 3)).1 ?_
  refine callsIn_of_wp_marks Try.func24 rfl trivial ?_ rfl
  simp only [Try.ntmps24, List.size_toArray, List.length_cons, List.length_nil, Nat.reduceAdd, Nat.reduceSub, Array.replicate_succ, Array.replicate_zero, List.push_toArray, List.append_toArray, List.nil_append, List.cons_append]
  refine wpIn_wide.2 ?_
  go_wp2_with fail
  refine wp_scope_straight ?_
  go_wp2_with fail
  generalize w.alloc (.cells #[.pointer (some ⟨g, 0, none⟩)] 27) = w0 at *
  refine (made_any _ n M _ ⟨_, _, _, _, _, _, _, _, rfl, HC0.out⟩).mono ?_
  rintro e wz ⟨rfl, rfl⟩
  go_wp2_with fail
  refine (in_any _ _ n M X _ ⟨_, _, _, _, _, _, _, _, rfl, HC0.out⟩ NX.out HX.out).mono ?_
  rintro e w1 ⟨⟨v1, rfl, ho⟩, hb⟩
  have bW1 := Lib.hid (boxed_below bW.out hb)
  obtain ⟨xa, xn, xc, rfl, -, ho⟩ := ho.slice
  have F1 := Lib.hid (F.out.trans (hb.mono F.out.size))
  have B1 := Lib.hid (ho.mono F.out.size)
  have HC1 := Lib.hid (HC0.out.below hb)
  have NK1 := Lib.hid (NK.out.below hb)
  clear ho hb cW
  go_wp2_with fail
  have hb2 := (Below.refl w1.heap.size w1).alloc (Nat.le_refl _) (.cells #[.slice xa xn xc] 22)
  have bW2 := Lib.hid (boxed_below bW1.out hb2)
  have bB2 := Lib.hid (Boxed.new w1 22 (.slice xa xn xc))
  have F2 := Lib.hid (F1.out.trans (hb2.mono F1.out.size))
  have B2 := Lib.hid (B1.out.below hb2)
  have HC2 := Lib.hid (HC1.out.below hb2)
  have NK2 := Lib.hid (NK1.out.below hb2)
  have hxb := bB2.out.lt
  clear hb2 B1 HC1 NK1 bW1 F1
  generalize w1.alloc (.cells #[.slice xa xn xc] 22) = w2 at *
  generalize w1.heap.size = gB at *
  refine (trim_ok NK2.out HK.out).mono ?_
  rintro e w3 ⟨⟨v3, rfl, ho⟩, hb⟩
  obtain ⟨ka, kn, kc, rfl, -, ho⟩ := ho.slice
  have bW3 := Lib.hid (boxed_below bW2.out hb)
  have bB3 := Lib.hid (boxed_below bB2.out hb)
  have F3 := Lib.hid (F2.out.trans (hb.mono F2.out.size))
  have B3 := Lib.hid (B2.out.below hb)
  have HC3 := Lib.hid (HC2.out.below hb)
  have OK3 := Lib.hid ho
  have cW := bW3.out.cell
  have c1' := HC3.out.one
  clear ho hb bW2 bB2 B2 HC2 NK2 F2
  have hs1 := Lib.hid bW3.out.lt
  have hs1 := Lib.hid (show w.heap.size < w3.heap.size from bW3.out.lt)
  have hs2 := Lib.hid (show g < w3.heap.size from HC3.out.lt)
  go_upto_region 9 with fail
  go_cut [10, 11] from 33 to 36 (fun s10 s11 wx => ∃ gS gP : Nat, s10 = .pointer (some ⟨gS, 0, none⟩) ∧ s11 = .pointer (some ⟨gP, 0, none⟩) ∧ Hid (Boxed wx gS 70 (.func (.func 54) #[] #[]) ∧ Boxed wx gP 22 (.slice a1 n c1) ∧ gS ≠ gP ∧ w3.heap.size ≤ gS ∧ w3.heap.size ≤ gP ∧ Below w3.heap.size w3 wx))
  case first =>
    have e0 := (((Below.refl w3.heap.size w3).alloc (by simp) (.cells #[.nilFunc] 70)).cell (p := ⟨w.heap.size, 0, none⟩) hs1.out).trans cW
    have d0 := (((Below.refl w3.heap.size w3).alloc (by simp) (.cells #[.nilFunc] 70)).cell (p := ⟨g, 2, none⟩) hs2.out).trans c1'
    have e1 := (((Below.refl w3.heap.size w3).alloc (by simp) (.cells #[(.func (.func 54) #[] #[])] 70)).cell (p := ⟨w.heap.size, 0, none⟩) hs1.out).trans cW
    have d1 := (((Below.refl w3.heap.size w3).alloc (by simp) (.cells #[(.func (.func 54) #[] #[])] 70)).cell (p := ⟨g, 2, none⟩) hs2.out).trans c1'
    have e2 := (((Below.refl w3.heap.size w3).alloc (by simp) (.cells #[.slice none 0 0] 22)).cell (p := ⟨w.heap.size, 0, none⟩) hs1.out).trans cW
    have d2 := (((Below.refl w3.heap.size w3).alloc (by simp) (.cells #[.slice none 0 0] 22)).cell (p := ⟨g, 2, none⟩) hs2.out).trans c1'
    have e3 := ((((Below.refl w3.heap.size w3).alloc (by simp) (.cells #[.nilFunc] 70)).alloc (by simp) (.cells #[.slice none 0 0] 22)).cell (p := ⟨w.heap.size, 0, none⟩) hs1.out).trans cW
    have d3 := ((((Below.refl w3.heap.size w3).alloc (by simp) (.cells #[.nilFunc] 70)).alloc (by simp) (.cells #[.slice none 0 0] 22)).cell (p := ⟨g, 2, none⟩) hs2.out).trans c1'
    have e4 := ((((Below.refl w3.heap.size w3).alloc (by simp) (.cells #[(.func (.func 54) #[] #[])] 70)).alloc (by simp) (.cells #[.slice none 0 0] 22)).cell (p := ⟨w.heap.size, 0, none⟩) hs1.out).trans cW
    have d4 := ((((Below.refl w3.heap.size w3).alloc (by simp) (.cells #[(.func (.func 54) #[] #[])] 70)).alloc (by simp) (.cells #[.slice none 0 0] 22)).cell (p := ⟨g, 2, none⟩) hs2.out).trans c1'
    have e5 := ((((Below.refl w3.heap.size w3).alloc (by simp) (.cells #[.slice none 0 0] 22)).alloc (by simp) (.cells #[.nilFunc] 70)).cell (p := ⟨w.heap.size, 0, none⟩) hs1.out).trans cW
    have d5 := ((((Below.refl w3.heap.size w3).alloc (by simp) (.cells #[.slice none 0 0] 22)).alloc (by simp) (.cells #[.nilFunc] 70)).cell (p := ⟨g, 2, none⟩) hs2.out).trans c1'
    have e6 := ((((Below.refl w3.heap.size w3).alloc (by simp) (.cells #[.slice none 0 0] 22)).alloc (by simp) (.cells #[(.func (.func 54) #[] #[])] 70)).cell (p := ⟨w.heap.size, 0, none⟩) hs1.out).trans cW
    have d6 := ((((Below.refl w3.heap.size w3).alloc (by simp) (.cells #[.slice none 0 0] 22)).alloc (by simp) (.cells #[(.func (.func 54) #[] #[])] 70)).cell (p := ⟨g, 2, none⟩) hs2.out).trans c1'
    go_region
    all_goals
      go_wp2_with fail
      go_meet
      first
        | exact ⟨_, _, rfl, rfl, pairA w3 _ _ _ _⟩
        | exact ⟨_, _, rfl, rfl, pairB w3 _ _ _ _⟩
  case rest =>
    obtain ⟨gS, gP, rfl, rfl, hcb⟩ := hcut
    have HLW := Lib.hid hs1.out
    have HLB := Lib.hid bB3.out.lt
    have HCWX := Lib.hid cW
    clear cW c1'
    obtain ⟨hbS, hbP, hSP, hS3, hP3, hBc⟩ := hcb.out
    have hm2 : bitsN K ≤ 8192 := (bitsN_le K 8192).2 (by rw [← topN_two]; exact HK.out)
    obtain ⟨m, hm⟩ : ∃ m, m = bitsN K := ⟨_, rfl⟩
    rw [← hm] at hm2
    have hkn := (own_short (k := 256) OK3.out).2 HK.out
    have hR1 := Lib.hid (Nat.mod_lt (radix n) (show 0 < M by have := H3.out; omega))
    have hXR := Lib.hid (Nat.mod_lt (X * radix n) (show 0 < M by have := H3.out; omega))
    have hne1 := Lib.hid (show ∀ ad, a1 = some ad → ad.block ≠ gP from fun ad e => by
      obtain ⟨bb, oo, he, hbl, -⟩ := HC3.out.r1.cells (by omega)
      rw [he] at e
      cases e
      show bb ≠ gP
      omega)
    go_wp2_with fail
    refine (wpIn_wide (n := 3)).1 ?_
    refine wpIn_label ?_
    gi_wp2_with fail
    refine (wpIn_wide (n := 3)).1 ?_
    gi_wp2_with (refine ⟨trivial, ?_⟩; gi_at_call 55; refine (callsIn_wide.2 (fallingB_any _ _ _ _)).mono ?_; rintro e w' ⟨rfl, rfl⟩)
    have bK := Boxed.new wc 23 (.slice ka kn kc)
    have bS1 := hbS.alloc (.cells #[.slice ka kn kc] 23)
    have bP1 := hbP.alloc (.cells #[.slice ka kn kc] 23)
    have hB1 := hBc.alloc hBc.size (.cells #[.slice ka kn kc] 23)
    have hKP : wc.heap.size ≠ gP := by have := hbP.lt; omega
    obtain ⟨W1, hW1⟩ : ∃ W1, wc.alloc (.cells #[.slice ka kn kc] 23) = W1 := ⟨_, rfl⟩
    rw [hW1] at bK bS1 bP1 hB1 ⊢
    have hs1 := hB1.size
    clear hW1 hcb hbS hbP hBc
    generalize wc.heap.size = gK at *
    have h1 : 1 ≤ 3 := by decide
    have HM := Lib.hid hm
    refine wpIn_rangeFunc_ownF (F := Fence.wide) rfl h1 (gf := 73) (lb := #[.pointer (some ⟨gK, 0, none⟩)]) rfl trivial (enters_of Try.func73 (by kernel_rfl) rfl)
      (bits_stops (3 - 1) (by decide) w3.heap.size gK m K (fun i => K.testBit i) ka kn kc (nat32 K) W1 bK (OK3.out.reads.below hB1) (natB_digit (by decide) K) (natB_val (by decide) K) (fun _ ad e => by subst e; exact (World.ownsRow.lt OK3.out ad.block rfl).2) (by omega) hkn hm hm2 (fun _ => rfl)) kpB_t (kpB_b (by omega)) (Below.refl _ _) (fun _ => rfl)
      (fun pre W => PowI gS gP n M X K m pre W ∧ Below w3.heap.size w3 W) (fun _ _ _ => False)
      (OwnFrom.and (Own.from (powI_own _ _ _ _ _ _ _) _) (ownFrom_below (Nat.le_refl _) (by omega))) (fun _ _ _ _ _ hs _ _ => hs)
      ⟨⟨a1, c1, radix n % M, bS1, bP1, HC3.out.r1.below hB1, hne1.out, hR1.out, fun _ => by rw [List.length_nil, Nat.sub_zero, pow_zero_bits hm, Nat.pow_zero, Nat.one_mul]⟩, hB1⟩ ?_ ?_ ?_ ?_ ?_
    rotate_left 1
    · intro lp x W K hK
      gi_wp2
      exact hK
    · rintro lp pre x W ⟨⟨pa, pc, Z, bS, bP, hr, hne, hI⟩, hB⟩ hlt
      obtain ⟨j, hjm⟩ := x
      have cS := bS.cell
      have cP := bP.cell
      have hWs := hB.size
      have cW2 := (hB.cell (p := ⟨w.heap.size, 0, none⟩) HLW.out).trans HCWX.out
      have HCW := Lib.hid (HC3.out.below hB)
      have HSQ := Lib.hid (squared_w (x := .slice pa n pc) ⟨_, _, _, _, _, _, _, _, rfl, HCW.out⟩ ⟨pa, pc, rfl, hr, Nat.lt_trans hI.out.1 HMR.out⟩ hI.out.1)
      have hM0 : 0 < M := by have := H3.out; omega
      have hM2 : 2 ≤ M := by have := H3.out; omega
      have HZ := Lib.hid (show monN n M (Z * Z) < M from monN_lt hM0)
      have hPW := bP.lt
      have hSW := bS.lt
      have HB := Lib.hid hB
      have BS := Lib.hid bS
      have BP := Lib.hid bP
      have HM0 := Lib.hid hM0
      have HM2 := Lib.hid hM2
      have HFX := Lib.hid (fun (hf : (pre ++ [(⟨j, hjm⟩ : Place m)]).map (·.1) = falls m (pre ++ [(⟨j, hjm⟩ : Place m)]).length) => (show Z = X ^ (K / 2 ^ (j + 1)) * radix n % M ∧ m - (pre ++ [(⟨j, hjm⟩ : Place m)]).length = j by
        obtain ⟨hf1, hf2⟩ := falls_prefix hf
        replace hf2 : j = m - 1 - pre.length := hf2
        have h := hI.out.2 hf1
        rw [show m - pre.length = j + 1 by omega] at h
        exact ⟨h, by simp; omega⟩))
      clear hr hB bS bP hM0 hM2
      gi_wp2_with fail
      refine ⟨trivial, ?_⟩
      refine (CallsIn.inRound lp (callsIn_wide.2 HSQ.out)).mono ?_
      rintro e w5 ⟨⟨v5, rfl, ho⟩, hb⟩
      obtain ⟨qa, qn, qc, rfl, hqn, ho⟩ := ho.slice
      obtain rfl : qn = n := hqn.trans (wideN_len (Nat.lt_trans HZ.out HMR.out))
      have bP5 := boxed_below BP.out hb
      have bS5 := boxed_below BS.out hb
      have cP5 := bP5.cell
      have fP5 := bP5.frozen
      have HB5 := Lib.hid ((HB.out.trans (hb.mono hWs)).setCell (p := ⟨gP, 0, none⟩) hP3 (.slice qa qn qc))
      have hoff := Lib.hid (show (Value.slice qa qn qc).ownBlock ≠ some gP from fun e => by have := (World.ownsRow.lt ho gP e).1; omega)
      have HO5 := Lib.hid (ho.setOther hoff.out (.slice qa qn qc))
      have BP5 := Lib.hid (bP5.set (.slice qa qn qc))
      have BS5 := Lib.hid (boxed_other bS5 ⟨gP, 0, none⟩ (.slice qa qn qc) hSP)
      have HK5 := Lib.hid ((below_keeps hb).trans (KeepsOthers.setCell w5 ⟨gP, 0, none⟩ (.slice qa qn qc)))
      have HKB5 : Hid (KpB w3.heap.size gK W (w5.setCell ⟨gP, 0, none⟩ (.slice qa qn qc))) := Lib.hid ⟨(hb.mono hWs).setCell (p := ⟨gP, 0, none⟩) hP3 _, fun t v h => boxed_other (boxed_below h hb) ⟨gP, 0, none⟩ _ hKP⟩
      have HQN := Lib.hid (show ∀ ad, qa = some ad → ad.block ≠ gP from fun ad e => by
        subst e
        intro e2
        exact hoff.out (by rw [← e2]; rfl))
      have HSZ := Lib.hid hb.size
      clear cS cP cW2 bP5 bS5 hb ho hqn
      rcases hbit : K.testBit j with _ | _
      · have HBIT := Lib.hid hbit
        gi_wp2
        exact ⟨HK5.out, HKB5.out, ⟨qa, qc, _, BS5.out, BP5.out, HO5.out.reads, HQN.out, HZ.out, fun hf => by
          obtain ⟨hz, hj⟩ := HFX.out hf
          rw [hj, hz]
          exact pow_step0 HM2.out HOD.out HBIT.out⟩, HB5.out⟩
      · have HBIT := Lib.hid hbit
        obtain ⟨W5, hW5⟩ : ∃ W5, W5 = w5.setCell ⟨gP, 0, none⟩ (.slice qa qn qc) := ⟨_, rfl⟩
        have HSZ5 := Lib.hid (show W.heap.size ≤ W5.heap.size by rw [hW5]; exact HK5.out.size)
        have cP6 := BP5.out.cell
        have cW6 := (HB5.out.cell (p := ⟨w.heap.size, 0, none⟩) HLW.out).trans HCWX.out
        have bB6 := (HB5.out.block gB HLB.out).trans bB3.out
        have cB6 := Boxed.cell bB6
        have hx1 : xn = qn := B3.out.cap.1.trans (wideN_len (Nat.lt_trans hXR.out HMR.out))
        subst hx1
        have HTM := Lib.hid (times_w (p := .pointer (some ⟨g, 0, none⟩)) (x := .slice qa xn qc) (y := .slice xa xn xc) ⟨_, _, _, _, _, _, _, _, rfl, HC3.out.below HB5.out⟩ (WideAt.of HO5.out (Nat.lt_trans HZ.out HMR.out)) (WideAt.of (B3.out.below HB5.out) (Nat.lt_trans hXR.out HMR.out)) HZ.out)
        have HZ2 := Lib.hid (show monN xn M (monN xn M (Z * Z) * (X * radix xn % M)) < M from monN_lt HM0.out)
        have hP6 := BP5.out.lt
        clear hbit
        gi_wp2_with fail
        rw [← hW5] at HB5 BP5 BS5 HO5 HK5 HKB5 HTM ⊢
        refine ⟨trivial, ?_⟩
        refine (CallsIn.inRound lp (callsIn_wide.2 HTM.out)).mono ?_
        rintro e w7 ⟨⟨v7, rfl, ho⟩, hb⟩
        obtain ⟨ra, rn, rc, rfl, hrn, ho⟩ := ho.slice
        obtain rfl : rn = xn := hrn.trans (wideN_len (Nat.lt_trans HZ2.out HMR.out))
        have hB5s := HB5.out.size
        have bP7 := boxed_below BP5.out hb
        have bS7 := boxed_below BS5.out hb
        have cP7 := bP7.cell
        have fP7 := bP7.frozen
        have hP7 : gP < W5.heap.size := BP5.out.lt
        have HB7 := Lib.hid ((HB5.out.trans (hb.mono hB5s)).setCell (p := ⟨gP, 0, none⟩) hP3 (.slice ra rn rc))
        have hoff7 := Lib.hid (show (Value.slice ra rn rc).ownBlock ≠ some gP from fun e => by have := (World.ownsRow.lt ho gP e).1; omega)
        have HO7 := Lib.hid (ho.setOther hoff7.out (.slice ra rn rc))
        have BP7 := Lib.hid (bP7.set (.slice ra rn rc))
        have BS7 := Lib.hid (boxed_other bS7 ⟨gP, 0, none⟩ (.slice ra rn rc) hSP)
        have HK7 := Lib.hid (HK5.out.trans ((below_keeps hb).trans (KeepsOthers.setCell w7 ⟨gP, 0, none⟩ (.slice ra rn rc))))
        have HKB7 : Hid (KpB w3.heap.size gK W (w7.setCell ⟨gP, 0, none⟩ (.slice ra rn rc))) := Lib.hid (kpB_t HKB5.out ⟨(hb.mono hB5s).setCell (p := ⟨gP, 0, none⟩) hP3 _, fun t v h => boxed_other (boxed_below h hb) ⟨gP, 0, none⟩ _ hKP⟩)
        have HQN7 := Lib.hid (show ∀ ad, ra = some ad → ad.block ≠ gP from fun ad e => by
          subst e
          intro e2
          exact hoff7.out (by rw [← e2]; rfl))
        clear bP7 bS7 hb ho hrn cP6 cW6 cB6 hW5
        gi_wp2
        exact ⟨HK7.out, HKB7.out, ⟨ra, rc, _, BS7.out, BP7.out, HO7.out.reads, HQN7.out, HZ2.out, fun hf => by
          obtain ⟨hz, hj⟩ := HFX.out hf
          rw [hj, hz]
          exact pow_step1 HM2.out HOD.out HBIT.out⟩, HB7.out⟩
    · rintro D xs W hD hxs ⟨⟨pa, pc, Z, bS, bP, hr, hne, hI⟩, hB⟩ hK
      have hxl : xs.length = m := by
        have := congrArg List.length hxs
        rwa [falls_length, List.length_map] at this
      have hz := hI.out.2 (by rw [hxl]; exact hxs)
      rw [hxl, Nat.sub_self, Nat.pow_zero, Nat.div_one] at hz
      have HRES := Lib.hid (show monN n M Z = X ^ K % M by rw [hz, monN_mod, monN_in (by have := H3.out; omega) HOD.out])
      have cP := bP.cell
      have hWs := hB.size
      have cW2 := (hB.cell (p := ⟨w.heap.size, 0, none⟩) HLW.out).trans HCWX.out
      have HOUT := Lib.hid (out_any (.pointer (some ⟨g, 0, none⟩)) (.slice pa n pc) n M Z W ⟨_, _, _, _, _, _, _, _, rfl, HC3.out.below hB⟩ ⟨pa, pc, rfl, hr, Nat.lt_trans hI.out.1 HMR.out⟩ hI.out.1)
      have HB := Lib.hid hB
      have HK := Lib.hid hK
      clear hr hB bS bP hxs hz
      gi_wp2_with fail
      refine ⟨trivial, ?_⟩
      refine (callsIn_wide.2 HOUT.out).mono ?_
      rintro e w5 ⟨⟨v5, rfl, ho⟩, hb⟩
      rw [HRES.out] at ho
      obtain ⟨qa, qn, qc, rfl, hqn, ho⟩ := ho.slice
      have O5 := Lib.hid (ho.mono (Nat.le_trans F3.out.size hWs))
      have F5 := Lib.hid (F3.out.trans ((HB.out.trans (hb.mono hWs)).mono F3.out.size))
      have HK5 := Lib.hid ((hb.block D (Array.getElem?_eq_some_iff.1 HK.out).1).trans HK.out)
      have hDw : w.heap.size ≤ D := by have := F3.out.size; omega
      clear ho hb hqn
      gi_wp2
      rw [Exit.noGoto_ret]
      refine ⟨by simp, .inl ⟨_, _, rfl, run_takeDeferred HK5.out, ?_⟩⟩
      refine ⟨_, results_tmp2 rfl _ _ _, ⟨.slice qa qn qc, ?_, ownsRow_putObj O5.out (.deferred none) HK5.out rfl⟩, F5.out.trans (belowK_b (w := w) (Nat.le_refl _) w5 D _ _ hDw HK5.out rfl rfl)⟩
      generalize nat32 (X ^ K % M) = L
      rfl
    · rintro D c pre W _ _ h _
      exact h.elim

end Go.Proofs.Ytebfoalcmnpghaa

namespace Go.Proofs.Ytebfoalcmnpghaa
open Go.RowKit

def powR (M X K : Nat) : List Nat × Int := if X < topN ∧ K < topN then (nat32 (X ^ K % M), 0) else ([], 20)
theorem powR_yes {M X K : Nat} (h : X < topN) (k : K < topN) : powR M X K = (nat32 (X ^ K % M), 0) := if_pos ⟨h, k⟩
theorem powR_no {M X K : Nat} (h : ¬ (X < topN ∧ K < topN)) : powR M X K = ([], 20) := if_neg h

set_option maxRecDepth 100000 in
set_option maxHeartbeats 2000000 in
theorem Power_noX (p x kv : Value) (n M X : Nat) (w : World) (hW : Whl w p n M) (hx : NatAt w x X) (hX : ¬ X < topN) :
    Calls Try.prog 24 #[p, x, kv] w fun e w' => RetsQ2 .u32 41 w.heap.size w' ([], 20) e ∧ Below w.heap.size w w' := by
  obtain ⟨g, a, c, k, a1, c1, a2, c2, rfl, hC⟩ := hW
  have hb0 := (Below.refl w.heap.size w).alloc (Nat.le_refl _) (.cells #[.pointer (some ⟨g, 0, none⟩)] 27)
  have HC0 := Lib.hid (hC.below hb0)
  have NX := Lib.hid (hx.below hb0)
  have HX := Lib.hid hX
  have F := Lib.hid hb0
  have cW := (Boxed.new w 27 (.pointer (some ⟨g, 0, none⟩))).cell
  clear hC hx hX hb0
  go_enter Try.func24, Try.ntmps24
  go_wp2_with fail
  refine wp_scope_straight ?_
  go_wp2_with fail
  generalize w.alloc (.cells #[.pointer (some ⟨g, 0, none⟩)] 27) = w0 at *
  refine (made_any _ n M _ ⟨_, _, _, _, _, _, _, _, rfl, HC0.out⟩).mono ?_
  rintro e wz ⟨rfl, rfl⟩
  go_wp2_with fail
  refine (in_no _ _ n M X _ ⟨_, _, _, _, _, _, _, _, rfl, HC0.out⟩ NX.out HX.out).mono ?_
  rintro e w1 ⟨rfl, hb⟩
  have F1 := Lib.hid ((F.out.trans (hb.mono F.out.size)).alloc (Nat.le_trans F.out.size hb.size) (.cells #[.slice none 0 0] 22))
  clear hb
  go_wp2
  rw [Exit.noGoto_ret]
  go_ret2
  exact ⟨⟨_, rfl, OwnQ.nil _ _ _ _⟩, F1.out⟩

set_option maxRecDepth 100000 in
set_option maxHeartbeats 2000000 in
theorem Power_noK (p x kv : Value) (n M X K : Nat) (w : World) (hW : Whl w p n M) (hx : NatAt w x X) (hk : NatAt w kv K) (hX : X < topN) (hK : ¬ K < topN) :
    Calls Try.prog 24 #[p, x, kv] w fun e w' => RetsQ2 .u32 41 w.heap.size w' ([], 20) e ∧ Below w.heap.size w w' := by
  obtain ⟨g, a, c, k, a1, c1, a2, c2, rfl, hC⟩ := hW
  have hb0 := (Below.refl w.heap.size w).alloc (Nat.le_refl _) (.cells #[.pointer (some ⟨g, 0, none⟩)] 27)
  have HC0 := Lib.hid (hC.below hb0)
  have NX := Lib.hid (hx.below hb0)
  have NK := Lib.hid (hk.below hb0)
  have HX := Lib.hid hX
  have HK := Lib.hid hK
  have F := Lib.hid hb0
  have cW := (Boxed.new w 27 (.pointer (some ⟨g, 0, none⟩))).cell
  clear hC hx hX hb0 hk hK
  go_enter Try.func24, Try.ntmps24
  go_wp2_with fail
  refine wp_scope_straight ?_
  go_wp2_with fail
  generalize w.alloc (.cells #[.pointer (some ⟨g, 0, none⟩)] 27) = w0 at *
  refine (made_any _ n M _ ⟨_, _, _, _, _, _, _, _, rfl, HC0.out⟩).mono ?_
  rintro e wz ⟨rfl, rfl⟩
  go_wp2_with fail
  refine (in_any _ _ n M X _ ⟨_, _, _, _, _, _, _, _, rfl, HC0.out⟩ NX.out HX.out).mono ?_
  rintro e w1 ⟨⟨v1, rfl, ho⟩, hb⟩
  obtain ⟨xa, xn, xc, rfl, -, ho⟩ := ho.slice
  have hb2 := (Below.refl w1.heap.size w1).alloc (Nat.le_refl _) (.cells #[.slice xa xn xc] 22)
  have F1 := Lib.hid ((F.out.trans (hb.mono F.out.size)).trans (hb2.mono (Nat.le_trans F.out.size hb.size)))
  have NK1 := Lib.hid ((NK.out.below hb).below hb2)
  clear hb hb2 ho
  go_wp2_with fail
  generalize w1.alloc (.cells #[.slice xa xn xc] 22) = w2 at *
  refine (trim_no NK1.out HK.out).mono ?_
  rintro e w3 ⟨⟨v3, rfl⟩, hb⟩
  have F3 := Lib.hid (F1.out.trans (hb.mono F1.out.size))
  clear hb
  go_wp2
  rw [Exit.noGoto_ret]
  go_ret2
  exact ⟨⟨_, rfl, OwnQ.nil _ _ _ _⟩, F3.out⟩

theorem Power_any (p x kv : Value) (n M X K : Nat) (w : World) (hW : Whl w p n M) (hx : NatAt w x X) (hk : NatAt w kv K) :
    Calls Try.prog 24 #[p, x, kv] w fun e w' => RetsQ2 .u32 41 w.heap.size w' (powR M X K) e ∧ Below w.heap.size w w' := by
  by_cases hX : X < topN
  · by_cases hK : K < topN
    · rw [powR_yes hX hK]
      exact Power_main p x kv n M X K w hW hx hk hX hK
    · rw [powR_no (fun h => hK h.2)]
      exact Power_noK p x kv n M X K w hW hx hk hX hK
  · rw [powR_no (fun h => hX h.1)]
    exact Power_noX p x kv n M X w hW hx hX

def Mod3 (M : Nat) : Prop := M < topM ∧ 3 ≤ M ∧ M % 2 = 1

set_option maxHeartbeats 1000000 in
theorem mpow_any (x kv m : Value) (X K M : Nat) (w : World) (hx : NatAt w x X) (hk : NatAt w kv K) (hm : NatAt w m M) (hM : Mod3 M) :
    Calls Try.prog 22 #[x, kv, m] w fun e w' => RetsQ2 .u32 41 w.heap.size w' (powR M X K) e ∧ Below w.heap.size w w' := by
  have NX := Lib.hid hx
  have NK := Lib.hid hk
  have NM := Lib.hid hm
  have HM := Lib.hid hM
  obtain ⟨O, he⟩ : ∃ O, O = powR M X K := ⟨_, rfl⟩
  have HE := Lib.hid he
  clear hx hk hm hM he
  go_enter Try.func22, Try.ntmps22
  go_wp2_with fail
  refine (new_ok m M w NM.out HM.out.1 HM.out.2.1 HM.out.2.2).mono ?_
  rintro e w1 ⟨⟨p, rfl, hp⟩, hb⟩
  have HP := Lib.hid hp.whl
  have NX1 := Lib.hid (NX.out.below hb)
  have NK1 := Lib.hid (NK.out.below hb)
  have B1 := Lib.hid hb
  clear hp hb
  have HPW := Lib.hid (Power_any p x kv _ M X K w1 HP.out NX1.out NK1.out)
  rw [← HE.out] at HPW
  obtain ⟨L, er⟩ := O
  go_wp2_with fail
  refine HPW.out.mono ?_
  rintro e w2 ⟨⟨v2, rfl, ho⟩, hb⟩
  have O2 := Lib.hid (ho.mono B1.out.size)
  have B2 := Lib.hid (B1.out.trans (hb.mono B1.out.size))
  clear ho hb
  go_wp2
  go_ret2
  rw [← HE.out]
  exact ⟨⟨_, rfl, O2.out⟩, B2.out⟩

set_option maxHeartbeats 1000000 in
theorem mpow_no (x kv m : Value) (M : Nat) (w : World) (hm : NatAt w m M) (hM : ¬ Mod3 M) :
    Calls Try.prog 22 #[x, kv, m] w fun e w' => e = .returned (.tuple #[.slice none 0 0, .int .i64 70]) ∧ Below w.heap.size w w' := by
  have NM := Lib.hid hm
  have HM := Lib.hid hM
  clear hm hM
  go_enter Try.func22, Try.ntmps22
  go_wp2_with fail
  refine (new_no m M w NM.out HM.out).mono ?_
  rintro e w1 ⟨rfl, hb⟩
  have B1 := Lib.hid hb
  clear hb
  go_wp2
  go_ret2
  exact ⟨rfl, B1.out⟩

theorem mpow_nat {x kv m : Value} {X K M : Nat} {w : World} (hx : NatAt w x X) (hk : NatAt w kv K) (hm : NatAt w m M) (hM : Mod3 M) (hX : X < topN) (hK : K < topN) :
    Calls Try.prog 22 #[x, kv, m] w fun e w' => RetN w' (X ^ K % M) e ∧ Below w.heap.size w w' := by
  refine (mpow_any x kv m X K M w hx hk hm hM).mono fun e w' ⟨he, hb⟩ => ⟨?_, hb⟩
  rw [powR_yes hX hK] at he
  exact he.num

end Go.Proofs.Ytebfoalcmnpghaa
