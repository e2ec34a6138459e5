/-
  OID: the law OidApart. (Written by wip/gen_oidA.py.)
-/
import Derived.Test.YtojphfkiblhhiaaOid9
namespace Go.Proofs.Ytojphfkiblhhiaa
open Go.RowKit
set_option maxRecDepth 100000

/-- A slice of numbers that came in, as the shells say it. -/
theorem reads_of_u64s {w : World} {a : Option Addr} {len cap : Nat} {zs : List Int}
    (h : (a = .none ∧ len = 0 ∧ cap = 0 ∧ zs = []) ∨ ∃ x, a = some x ∧ len ≤ cap ∧ cap ≤ maxLen ∧ zs.length = cap ∧ (∀ i, i < zs.length → w.cell? (x.add i) = some (.int .u64 (zs.getD i 0))) ∧ ∀ n ∈ zs, (Lit.int .u64 n).wf = true) :
    ∃ l : List Nat, Reads .u64 w a len cap l ∧ ∀ x ∈ l, x < 18446744073709551616 := by
  rcases h with ⟨rfl, rfl, rfl, rfl⟩ | ⟨x, rfl, hl, hm, hz, hc, hw⟩
  · exact ⟨[], Reads.none _ w, fun _ h => by cases h⟩
  · have hbd : ∀ n ∈ zs, 0 ≤ n ∧ n < 18446744073709551616 := fun n hn => by
      have := hw n hn
      simp [Lit.wf, IntKind.min, IntKind.max, IntKind.signed, IntKind.bits] at this
      omega
    refine ⟨(zs.take len).map fun n => n.toNat, ⟨by simp; omega, hl, hm, (fun h => by cases h), fun hp => ?_⟩, fun y hy => ?_⟩
    · obtain ⟨b, off, spot⟩ := x
      have h0 := hc 0 (by omega)
      have hs : spot = .none := by simpa [Addr.add] using World.cell?_spot h0
      subst hs
      refine ⟨b, off, rfl, World.block_lt_of_cell? w _ (by simpa [Addr.add] using h0), fun i hi => ?_⟩
      have hci := hc i (by omega)
      have e : (⟨b, off, .none⟩ : Addr).add i = ⟨b, off + i, .none⟩ := by unfold Addr.add; split <;> simp_all
      rw [e] at hci
      rw [hci]
      have hlt : i < zs.length := by omega
      have hb := hbd zs[i] (List.getElem_mem _)
      have h1 : zs.getD i 0 = zs[i] := by simp [List.getD, hlt]
      rw [h1]
      simp [hi, hlt]
      omega
    · obtain ⟨n, hn, rfl⟩ := List.mem_map.1 hy
      have := hbd n (List.mem_of_mem_take hn)
      omega

set_option maxHeartbeats 1000000 in
theorem same_q (a a' : Option Addr) (n c n' c' : Nat) (l m : List Nat) (w : World) (hl : Reads .u64 w a n c l) (hm : Reads .u64 w a' n' c' m) :
    Calls Try.prog 8 #[.slice a n c, .slice a' n' c'] w fun e w' => e = .returned (.bool (decide (l = m))) ∧ ∃ k, w' = w.drewN k := by
  have hnl := Lib.hid hl.length
  have hml := Lib.hid hm.length
  have hn := hl.len_le
  unfold maxLen at hn
  have HL := Lib.hid hl
  have HM := Lib.hid hm
  by_cases hlen : n = n'
  rotate_left
  · have hd := Lib.hid (show decide (l = m) = false from decide_eq_false fun e => hlen (by rw [← hnl.out, ← hml.out, e]))
    have h1 : ((n : Int) != (n' : Int)) = true := by simp; omega
    clear hl hm
    go_enter Try.func8, Try.ntmps8
    go_wp2
    go_ret
    exact ⟨by rw [hd.out]; rfl, ⟨0, rfl⟩⟩
  subst hlen
  clear hl hm
  go_enter Try.func8, Try.ntmps8
  go_wp2_with fail
  go_loopw [5] (fun v wr => ∃ i : Nat, i ≤ n ∧ v = .int .i64 (i : Int) ∧ Hid (l.take i = m.take i) ∧ Hid (∃ k, wr = w.drewN k)) (fun v _ => n + 1 - (intOf v).toNat)
  case atStart => exact ⟨0, by omega, rfl, Lib.hid rfl, Lib.hid ⟨0, rfl⟩⟩
  case round =>
    obtain ⟨i, hi, rfl, hI, HB⟩ := hrel
    by_cases hlt : i < n
    · obtain ⟨b, off, rfl, hb, hc⟩ := HL.out.cells (by omega)
      obtain ⟨b', off', rfl, hb', hc'⟩ := HM.out.cells (by omega)
      obtain ⟨k0, rfl⟩ := HB.out
      have c1 := hc i hlt
      have c2 := hc' i hlt
      have hs : l[i]?.getD 0 = m[i]?.getD 0 → l.take (i + 1) = m.take (i + 1) := fun e => by
        rw [List.take_add_one, List.take_add_one, hI.out]
        congr 1
        rw [List.getElem?_eq_getElem (by have := hnl.out; omega), List.getElem?_eq_getElem (by have := hml.out; omega)] at e ⊢
        simpa using e
      have hs2 : l[i]?.getD 0 ≠ m[i]?.getD 0 → l ≠ m := fun e h => e (by rw [h])
      have HS := Lib.hid hs
      have HS2 := Lib.hid hs2
      clear hc hc' hs hs2
      generalize l[i]?.getD 0 = x at *
      generalize m[i]?.getD 0 = y at *
      by_cases hxy : x = y
      · subst hxy
        have HT := Lib.hid (HS.out rfl)
        go_wp2_with fail
        go_big_quiet (fail)
        simp only [Exit.then]
        have HB2 := Lib.hid (show ∃ k, (w.drewN k0).drewN nq = w.drewN k from ⟨k0 + nq, World.drewN_drewN _ _ _⟩)
        generalize (w.drewN k0).drewN nq = w2 at *
        go_wp2
        go_roundw
        case rel => exact ⟨i + 1, by omega, by go_num, HT, HB2⟩
        case measure => simp [intOf]; omega
      · have hd := Lib.hid (show decide (l = m) = false from decide_eq_false (HS2.out hxy))
        have h1 : ((x : Int) != (y : Int)) = true := by simp; omega
        clear hxy
        go_wp2_with fail
        go_big_quiet (fail)
        simp only [Exit.then]
        have HB2 := Lib.hid (show ∃ k, (w.drewN k0).drewN nq = w.drewN k from ⟨k0 + nq, World.drewN_drewN _ _ _⟩)
        generalize (w.drewN k0).drewN nq = w2 at *
        go_wp2
        go_ret
        exact ⟨by rw [hd.out]; rfl, HB2.out⟩
    · have hie : i = n := by omega
      have hd := Lib.hid (show decide (l = m) = true from decide_eq_true (by
        have := hI.out
        rwa [List.take_of_length_le (by have := hnl.out; omega), List.take_of_length_le (by have := hml.out; omega)] at this))
      clear hie
      go_wp2
      go_ret
      exact ⟨by rw [hd.out]; rfl, HB.out⟩


theorem flat_pos {l : List Nat} (h : l ≠ []) : 1 ≤ (l.flatMap formO).length := by
  have := (flat_len l).1
  have : 1 ≤ l.length := by
    cases l with
    | nil => exact absurd rfl h
    | cons _ _ => simp
  omega
theorem take_bytes {l : List Nat} {k : Nat} (h2 : 2 ≤ k) (hk : k < l.length) : (bytesO (l.take k)).length < (bytesO l).length ∧ (bytesO l).take (bytesO (l.take k)).length = bytesO (l.take k) := by
  have e := bytesO_take (l := l) h2
  have hp := flat_pos (l := l.drop k) (fun e => by have := congrArg List.length e; rw [List.length_drop] at this; simp at this; omega)
  refine ⟨?_, ?_⟩
  · have := congrArg List.length e
    rw [List.length_append] at this
    omega
  · conv => lhs; rw [e]
    rw [List.take_left]
/-- Whether one begins with the other. -/
theorem begins_iff {l m : List Nat} (h : OidOk l) (g : OidOk m) : ((bytesO m).length ≤ (bytesO l).length ∧ (bytesO l).take (bytesO m).length = bytesO m) ↔ (m.length ≤ l.length ∧ l.take m.length = m) := by
  constructor
  · rintro ⟨_, h2⟩
    have e : bytesO l = bytesO m ++ (bytesO l).drop (bytesO m).length := by
      conv => lhs; rw [← List.take_append_drop (bytesO m).length (bytesO l), h2]
    obtain ⟨h3, h4⟩ := bytesO_pre h g e
    exact ⟨h4, h3.symm⟩
  · rintro ⟨h1, h2⟩
    rcases Nat.lt_or_ge m.length l.length with hlt | hge
    · have := take_bytes g.1 hlt
      rw [h2] at this
      exact ⟨Nat.le_of_lt this.1, this.2⟩
    · have : l = m := by rw [← h2, List.take_of_length_le hge]
      subst this
      exact ⟨Nat.le_refl _, List.take_of_length_le (Nat.le_refl _)⟩

theorem slice_up (a : Option Addr) (n c k : Nat) (t : TypeId) (hk : k ≤ c) (ht : Try.prog.underlying t = some (.slice (Try.prog.elem t))) (h1 : ∀ w, (sizeOf (Try.prog.elem t)).run Try.prog w = .ok 1 w) (W : World) : (Instr.sliceAt t (.slice a n c) none (some (.int .i64 (k : Int))) none).run Try.prog W = .ok (.slice a k c) W := by
  rw [run_sliceAt_slice W _ _ _ _ _ ht, run_slice_h W t a n c ht .i64 (k : Int) (by omega) (by omega), h1]
  simp [sliced, Result.andThen]
  cases a <;> simp [Addr.add]

set_option maxHeartbeats 4000000 in
theorem apart_walk (la : Option Addr) (len cap : Nat) (l : List Nat) (ma : Option Addr) (mn mc : Nat) (m : List Nat) (w : World) (hl : Reads .u64 w la len cap l) (hm : Reads .u64 w ma mn mc m) :
    Calls Try.prog 3 #[.slice la len cap, .slice ma mn mc] w fun e w' => e = .returned (.bool true) ∧ Below w.heap.size w w' := by
  have HL := Lib.hid hl
  have HM := Lib.hid hm
  have HLN := Lib.hid hl.length
  have HMN := Lib.hid hm.length
  have hb1 := hl.len_le
  unfold maxLen at hb1
  have hb2 := hm.len_le
  unfold maxLen at hb2
  have hlc := hl.le
  have hlm := hl.max
  clear hl hm
  by_cases hbig : 100 < len ∨ 100 < mn
  · rcases (show 100 < len ∨ (¬ 100 < len ∧ 100 < mn) by omega) with h1 | ⟨h1, h2⟩
    · skip
      have d1 : decide ((100 : Int) < (len : Int)) = true := by simp; omega
      go_enter Try.func3, Try.ntmps3
      go_wp2_with fail
      refine (alive_o _).mono ?_
      rintro e w1 ⟨rfl, hb⟩
      have HB := Lib.hid hb
      clear hb
      go_wp2
      go_ret
      exact ⟨rfl, HB.out⟩
    · skip
      have d1 : decide ((100 : Int) < (len : Int)) = false := by simp; omega
      have d2 : decide ((100 : Int) < (mn : Int)) = true := by simp; omega
      go_enter Try.func3, Try.ntmps3
      go_wp2_with fail
      refine (alive_o _).mono ?_
      rintro e w1 ⟨rfl, hb⟩
      have HB := Lib.hid hb
      clear hb
      go_wp2
      go_ret
      exact ⟨rfl, HB.out⟩
  have hl1 : ¬ 100 < len := by omega
  have hm1 : ¬ 100 < mn := by omega
  have d1 : decide ((100 : Int) < (len : Int)) = false := by simp; omega
  have d2 : decide ((100 : Int) < (mn : Int)) = false := by simp; omega
  clear hbig
  go_enter Try.func3, Try.ntmps3
  go_wp2_with fail
  refine (alive_o _).mono ?_
  rintro e w1 ⟨rfl, hb⟩
  have HB := Lib.hid hb
  clear hb
  go_wp2_with fail
  refine (bytes_any la len cap l _ (HL.out.below HB.out)).mono ?_
  rintro e w2 ⟨⟨aa, an, ac, rfl, hv⟩, hb⟩
  have HA := Lib.hid hv
  have HB := Lib.hid (HB.out.trans (hb.mono HB.out.size))
  clear hb
  clear hv
  go_wp2_with fail
  refine (bytes_any ma mn mc m _ (HM.out.below HB.out)).mono ?_
  rintro e w3 ⟨⟨ba, bn, bc, rfl, hv⟩, hb⟩
  have HBB := Lib.hid hv
  have HA := Lib.hid (HA.out.below hb)
  have HB := Lib.hid (HB.out.trans (hb.mono HB.out.size))
  clear hb
  clear hv
  by_cases hok : OidOk l
  rotate_left
  · have hr := Lib.hid (show bytesR l = ([], 140) from if_neg hok)
    rw [hr.out]
    clear hok HA HBB
    go_wp2
    go_ret
    exact ⟨rfl, HB.out⟩
  have hr := Lib.hid (show bytesR l = (bytesO l, 0) from if_pos hok)
  rw [hr.out] at HA ⊢
  dsimp only at HA ⊢
  by_cases hom : OidOk m
  rotate_left
  · have hr := Lib.hid (show bytesR m = ([], 140) from if_neg hom)
    have hck := Lib.hid (show checkO l = 0 from if_pos hok)
    rw [hr.out]
    clear hok hom HA HBB
    go_wp2_with fail
    refine (check_any la len cap l _ (HL.out.below HB.out)).mono ?_
    rintro e w4 ⟨rfl, hb⟩
    rw [hck.out]
    have HB := Lib.hid (HB.out.trans (hb.mono HB.out.size))
    clear hb
    go_wp2
    go_ret
    exact ⟨rfl, HB.out⟩
  have hr2 := Lib.hid (show bytesR m = (bytesO m, 0) from if_pos hom)
  rw [hr2.out] at HBB ⊢
  dsimp only at HBB ⊢
  have HOK := Lib.hid hok
  have HOM := Lib.hid hom
  have hlen2 : 2 ≤ len := by have := hok.1; have := HLN.out; omega
  have hbeg := Lib.hid (begins_iff hok hom)
  have hinj := Lib.hid (show bytesO l = bytesO m ↔ l = m from ⟨bytesO_inj hok hom, fun e => by rw [e]⟩)
  have AN := Lib.hid HA.out.cap.1
  have BN := Lib.hid HBB.out.cap.1
  have hacm := HA.out.cap.2
  have hBL := Lib.hid (bytesO_byt l)
  have hBM := Lib.hid (bytesO_byt m)
  have HB0 := Lib.hid (Below.refl w3.heap.size w3)
  have ho8 : ∀ w, (sizeOf (Try.prog.elem 24)).run Try.prog w = .ok 1 w := fun _ => by kernel_rfl
  have ho64 : ∀ w, (sizeOf (Try.prog.elem 22)).run Try.prog w = .ok 1 w := fun _ => by kernel_rfl
  clear hok hom hr hr2 d1 d2
  go_wp2_with fail
  go_loopw [10] (fun kv wr => ∃ k : Nat, kv = .int .i64 (k : Int) ∧ 2 ≤ k ∧ k ≤ len ∧ Hid (Below w3.heap.size w3 wr)) (fun kv _ => len + 1 - (intOf kv).toNat)
  case atStart => exact ⟨2, rfl, by omega, hlen2, HB0⟩
  case round =>
    obtain ⟨k, rfl, hk2, hkl, HW⟩ := hrel
    by_cases hlt : k < len
    · have sl0 := slice_up la len cap k 22 (by omega) (by kernel_rfl) ho64
      have HB := Lib.hid (HB.out.trans (HW.out.mono HB.out.size))
      have HA := Lib.hid (HA.out.below HW.out)
      have hkk := take_bytes (l := l) hk2 (by have := HLN.out; omega)
      have HRK := Lib.hid (show bytesR (l.take k) = (bytesO (l.take k), 0) from if_pos (HOK.out.take hk2))
      have hBK := Lib.hid (bytesO_byt (l.take k))
      go_wp2_with fail
      refine (bytes_any la k cap (l.take k) _ ((HL.out.below HB.out).upto k (by omega))).mono ?_
      rintro e w5 ⟨⟨ca, cn, cc, rfl, hv⟩, hb⟩
      rw [HRK.out] at hv ⊢
      dsimp only at hv ⊢
      have HC := Lib.hid hv
      have hcn := hv.cap.1
      have HA := Lib.hid (HA.out.below hb)
      have HW := Lib.hid (HW.out.trans (hb.mono HW.out.size))
      have hlt2 : cn < an := by rw [hcn, AN.out]; exact hkk.1
      have hup := HA.out.reads.upto cn (by omega)
      rw [hcn, hkk.2, ← hcn] at hup
      have sl1 := slice_up aa an ac cn 24 (by omega) (by kernel_rfl) ho8
      have cvX := fun N => convB ((hup.drewN N).bts hBK.out)
      have cvY := fun N => convB ((HC.out.reads.drewN N).bts hBK.out)
      have dle : decide ((an : Int) ≤ (cn : Int)) = false := by simp; omega
      have dle2 : decide (an ≤ cn) = false := by simp; omega
      have dle3 : ¬ an ≤ cn := by omega
      have dle4 : ¬ (an : Int) ≤ (cn : Int) := by omega
      clear hb hv hkk hcn hup sl0 HRK
      generalize u8s (bytesO (l.take k)) = Z at *
      go_wp2_with fail
      go_big_quiet (fail)
      simp only [Exit.then]
      have HW := Lib.hid (below_drewN HW.out nq)
      generalize w5.drewN nq = w6 at *
      clear cvX cvY sl1
      go_wp2
      go_roundw
      case rel => exact ⟨k + 1, by go_num, by omega, by omega, HW⟩
      case measure => simp [intOf]; omega
    · have HB := Lib.hid (HB.out.trans (HW.out.mono HB.out.size))
      have HA := Lib.hid (HA.out.below HW.out)
      have HBB := Lib.hid (HBB.out.below HW.out)
      clear HW HB0
      generalize hA8 : bytesO l = A8 at *
      generalize hB8 : bytesO m = B8 at *
      have hAN := AN.out
      have hBN := BN.out
      have hLL := HLN.out
      have hML := HMN.out
      rcases Nat.lt_or_ge an bn with hgt | hle
      · have hnb : ¬ (m.length ≤ l.length ∧ l.take m.length = m) := fun e => by
          have := (hbeg.out.2 e).1
          omega
        have hlm2 : l ≠ m := fun e => hnb ⟨by rw [e]; exact Nat.le_refl _, by rw [e]; exact List.take_of_length_le (Nat.le_refl _)⟩
        rcases Nat.lt_or_ge len mn with hmn | hmn
        · clear hAN hBN hLL hML hnb
          have b1 : (u8s A8 == u8s B8) = false := u8s_ne hBL.out hBM.out (fun e => hlm2 (hinj.out.1 e))
          have D1 := Lib.hid (show decide (l = m) = false from decide_eq_false hlm2)
          have e1 : decide ((bn : Int) ≤ (an : Int)) = false := by simp; omega
          have e2 : decide (bn ≤ an) = false := by simp; omega
          have e3 : ¬ bn ≤ an := by omega
          clear hinj hbeg
          go_wp2_with fail
          go_big_quiet (fail)
          simp only [Exit.then]
          have HB := Lib.hid (below_drewN HB.out nq)
          have HA := Lib.hid (HA.out.drewN nq)
          have HBB := Lib.hid (HBB.out.drewN nq)
          generalize wr.drewN nq = w6 at *
          have cvA := fun N => convB ((HA.out.reads.drewN N).bts hBL.out)
          have cvB := fun N => convB ((HBB.out.reads.drewN N).bts hBM.out)
          have hLr := HL.out.below HB.out
          have hMr := HM.out.below HB.out
          have f1 : decide ((mn : Int) ≤ (len : Int)) = false := by simp; omega
          have f2 : decide (mn ≤ len) = false := by simp; omega
          have f3 : ¬ mn ≤ len := by omega
          go_wp2_with fail
          refine wp_region_quiet_lit (by kernel_rfl) (by kernel_rfl) ?_
          go_big_quiet_step (fail)
          go_big_quiet_step (fail)
          go_big_quiet_step (fail)
          go_big_quiet_step (fail)
          go_big_quiet_step (fail)
          go_big_quiet_step (fail)
          go_big_quiet_step (fail)
          go_big_quiet_step (fail)
          go_big_quiet_step (fail)
          go_big_quiet_step ((go_at_call 8; refine Calls.quiet_of (D1.out ▸ same_q la ma len cap mn mc l m _ (hLr.drewN _) (hMr.drewN _))))
          go_big_quiet_step (fail)
          go_big_quiet_step (fail)
          go_big_quiet_step (fail)
          go_big_quiet_step (fail)
          go_big_quiet_step (fail)
          go_big_quiet_step (fail)
          go_big_quiet_step (fail)
          go_big_quiet_step (fail)
          go_big_quiet_step (fail)
          go_big_quiet_step (fail)
          go_big_quiet_step (fail)
          go_big_quiet_step (fail)
          go_big_quiet_step (fail)
          go_big_quiet_step (fail)
          go_big_quiet_step (fail)
          go_big_quiet_step (fail)
          go_big_quiet_step (fail)
          go_big_quiet_step (fail)
          go_big_quiet_step (fail)
          go_big_quiet_step (fail)
          go_big_quiet_step (fail)
          go_big_quiet_step (fail)
          go_big_quiet_step (fail)
          refine wpQuiet_nil ?_
          intro _ hw1
          obtain ⟨nq, hw2⟩ := hw1
          subst hw2
          go_wp2
          go_ret
          exact ⟨rfl, below_drewN HB.out nq⟩
        · have htk : l.take mn ≠ m := fun e => hnb ⟨by omega, by rw [hML]; exact e⟩
          clear hAN hBN hLL hML hnb
          have b1 : (u8s A8 == u8s B8) = false := u8s_ne hBL.out hBM.out (fun e => hlm2 (hinj.out.1 e))
          have D1 := Lib.hid (show decide (l = m) = false from decide_eq_false hlm2)
          have e1 : decide ((bn : Int) ≤ (an : Int)) = false := by simp; omega
          have e2 : decide (bn ≤ an) = false := by simp; omega
          have e3 : ¬ bn ≤ an := by omega
          clear hinj hbeg
          go_wp2_with fail
          go_big_quiet (fail)
          simp only [Exit.then]
          have HB := Lib.hid (below_drewN HB.out nq)
          have HA := Lib.hid (HA.out.drewN nq)
          have HBB := Lib.hid (HBB.out.drewN nq)
          generalize wr.drewN nq = w6 at *
          have cvA := fun N => convB ((HA.out.reads.drewN N).bts hBL.out)
          have cvB := fun N => convB ((HBB.out.reads.drewN N).bts hBM.out)
          have hLr := HL.out.below HB.out
          have hMr := HM.out.below HB.out
          have f1 : decide ((mn : Int) ≤ (len : Int)) = true := by simp; omega
          have f2 : decide (mn ≤ len) = true := by simp; omega
          have f3 : mn ≤ len := hmn
          have sl2 := slice_up la len cap mn 22 (by omega) (by kernel_rfl) ho64
          have hup2 := hLr.upto mn hmn
          have D2 := Lib.hid (show decide (l.take mn = m) = false from decide_eq_false htk)
          have x1 : ∀ W, (Builtin.min_ #[3, 3] 3 #[.int .i64 (len : Int), .int .i64 (mn : Int)]).run Try.prog W = .ok (.int .i64 (mn : Int)) W := fun W => by
            rw [run_min_int2]
            congr 2
            split <;> omega
          have x2 : (if (mn : Int) < (len : Int) then (mn : Int) else (len : Int)) = (mn : Int) := by split <;> omega
          have x3 : (if mn < len then (mn : Int) else (len : Int)) = (mn : Int) := by split <;> omega
          go_wp2_with fail
          refine wp_region_quiet_lit (by kernel_rfl) (by kernel_rfl) ?_
          go_big_quiet_step (fail)
          go_big_quiet_step (fail)
          go_big_quiet_step (fail)
          go_big_quiet_step (fail)
          go_big_quiet_step (fail)
          go_big_quiet_step (fail)
          go_big_quiet_step (fail)
          go_big_quiet_step (fail)
          go_big_quiet_step (fail)
          go_big_quiet_step ((go_at_call 8; refine Calls.quiet_of (D1.out ▸ same_q la ma len cap mn mc l m _ (hLr.drewN _) (hMr.drewN _))))
          go_big_quiet_step (fail)
          go_big_quiet_step (fail)
          go_big_quiet_step (fail)
          go_big_quiet_step (fail)
          go_big_quiet_step (fail)
          go_big_quiet_step (fail)
          go_big_quiet_step (fail)
          go_big_quiet_step (fail)
          go_big_quiet_step (fail)
          go_big_quiet_step (fail)
          go_big_quiet_step (fail)
          go_big_quiet_step (fail)
          go_big_quiet_step (fail)
          go_big_quiet_step (fail)
          go_big_quiet_step (fail)
          go_big_quiet_step (fail)
          go_big_quiet_step (fail)
          go_big_quiet_step (fail)
          go_big_quiet_step ((go_at_call 8; refine Calls.quiet_of (D2.out ▸ same_q la ma mn cap mn mc (l.take mn) m _ (hup2.drewN _) (hMr.drewN _))))
          go_big_quiet_step (fail)
          go_big_quiet_step (fail)
          go_big_quiet_step (fail)
          go_big_quiet_step (fail)
          refine wpQuiet_nil ?_
          intro _ hw1
          obtain ⟨nq, hw2⟩ := hw1
          subst hw2
          go_wp2
          go_ret
          exact ⟨rfl, below_drewN HB.out nq⟩
      · by_cases hpre : A8.take bn = B8
        · have hyb := hbeg.out.1 ⟨by omega, by rw [← hBN]; exact hpre⟩
          have hmn : mn ≤ len := by have := hyb.1; omega
          have htk : l.take mn = m := by rw [← hML]; exact hyb.2
          by_cases hlm2 : l = m
          · clear hAN hBN hLL hML hyb
            have b1 : (u8s A8 == u8s B8) = true := by rw [hinj.out.2 hlm2]; simp
            have D1 := Lib.hid (show decide (l = m) = true from decide_eq_true hlm2)
            have e1 : decide ((bn : Int) ≤ (an : Int)) = true := by simp; omega
            have e2 : decide (bn ≤ an) = true := by simp; omega
            have e3 : bn ≤ an := hle
            have sl1 := slice_up aa an ac bn 24 (by omega) (by kernel_rfl) ho8
            have hup := HA.out.reads.upto bn hle
            have hBt : Byt (A8.take bn) := fun x hx => hBL.out x (List.mem_of_mem_take hx)
            have cvX := fun N => convB ((hup.drewN N).bts hBt)
            have cvY := fun N => convB ((HBB.out.reads.drewN N).bts hBM.out)
            have b2 : (u8s (A8.take bn) == u8s B8) = true := by rw [hpre]; simp
            clear hinj hbeg
            go_wp2_with fail
            go_big_quiet (fail)
            simp only [Exit.then]
            have HB := Lib.hid (below_drewN HB.out nq)
            have HA := Lib.hid (HA.out.drewN nq)
            have HBB := Lib.hid (HBB.out.drewN nq)
            generalize wr.drewN nq = w6 at *
            clear cvX cvY sl1 b2 hup
            have cvA := fun N => convB ((HA.out.reads.drewN N).bts hBL.out)
            have cvB := fun N => convB ((HBB.out.reads.drewN N).bts hBM.out)
            have hLr := HL.out.below HB.out
            have hMr := HM.out.below HB.out
            have f1 : decide ((mn : Int) ≤ (len : Int)) = true := by simp; omega
            have f2 : decide (mn ≤ len) = true := by simp; omega
            have f3 : mn ≤ len := hmn
            have sl2 := slice_up la len cap mn 22 (by omega) (by kernel_rfl) ho64
            have hup2 := hLr.upto mn hmn
            have D2 := Lib.hid (show decide (l.take mn = m) = true from decide_eq_true htk)
            have x1 : ∀ W, (Builtin.min_ #[3, 3] 3 #[.int .i64 (len : Int), .int .i64 (mn : Int)]).run Try.prog W = .ok (.int .i64 (mn : Int)) W := fun W => by
              rw [run_min_int2]
              congr 2
              split <;> omega
            have x2 : (if (mn : Int) < (len : Int) then (mn : Int) else (len : Int)) = (mn : Int) := by split <;> omega
            have x3 : (if mn < len then (mn : Int) else (len : Int)) = (mn : Int) := by split <;> omega
            go_wp2_with fail
            refine wp_region_quiet_lit (by kernel_rfl) (by kernel_rfl) ?_
            go_big_quiet_step (fail)
            go_big_quiet_step (fail)
            go_big_quiet_step (fail)
            go_big_quiet_step (fail)
            go_big_quiet_step (fail)
            go_big_quiet_step (fail)
            go_big_quiet_step (fail)
            go_big_quiet_step (fail)
            go_big_quiet_step (fail)
            go_big_quiet_step ((go_at_call 8; refine Calls.quiet_of (D1.out ▸ same_q la ma len cap mn mc l m _ (hLr.drewN _) (hMr.drewN _))))
            go_big_quiet_step (fail)
            go_big_quiet_step (fail)
            go_big_quiet_step (fail)
            go_big_quiet_step (fail)
            go_big_quiet_step (fail)
            go_big_quiet_step (fail)
            go_big_quiet_step (fail)
            go_big_quiet_step (fail)
            go_big_quiet_step (fail)
            go_big_quiet_step (fail)
            go_big_quiet_step (fail)
            go_big_quiet_step (fail)
            go_big_quiet_step (fail)
            go_big_quiet_step (fail)
            go_big_quiet_step (fail)
            go_big_quiet_step (fail)
            go_big_quiet_step (fail)
            go_big_quiet_step (fail)
            go_big_quiet_step ((go_at_call 8; refine Calls.quiet_of (D2.out ▸ same_q la ma mn cap mn mc (l.take mn) m _ (hup2.drewN _) (hMr.drewN _))))
            go_big_quiet_step (fail)
            go_big_quiet_step (fail)
            go_big_quiet_step (fail)
            go_big_quiet_step (fail)
            refine wpQuiet_nil ?_
            intro _ hw1
            obtain ⟨nq, hw2⟩ := hw1
            subst hw2
            go_wp2
            go_ret
            exact ⟨rfl, below_drewN HB.out nq⟩
          · clear hAN hBN hLL hML hyb
            have b1 : (u8s A8 == u8s B8) = false := u8s_ne hBL.out hBM.out (fun e => hlm2 (hinj.out.1 e))
            have D1 := Lib.hid (show decide (l = m) = false from decide_eq_false hlm2)
            have e1 : decide ((bn : Int) ≤ (an : Int)) = true := by simp; omega
            have e2 : decide (bn ≤ an) = true := by simp; omega
            have e3 : bn ≤ an := hle
            have sl1 := slice_up aa an ac bn 24 (by omega) (by kernel_rfl) ho8
            have hup := HA.out.reads.upto bn hle
            have hBt : Byt (A8.take bn) := fun x hx => hBL.out x (List.mem_of_mem_take hx)
            have cvX := fun N => convB ((hup.drewN N).bts hBt)
            have cvY := fun N => convB ((HBB.out.reads.drewN N).bts hBM.out)
            have b2 : (u8s (A8.take bn) == u8s B8) = true := by rw [hpre]; simp
            clear hinj hbeg
            go_wp2_with fail
            go_big_quiet (fail)
            simp only [Exit.then]
            have HB := Lib.hid (below_drewN HB.out nq)
            have HA := Lib.hid (HA.out.drewN nq)
            have HBB := Lib.hid (HBB.out.drewN nq)
            generalize wr.drewN nq = w6 at *
            clear cvX cvY sl1 b2 hup
            have cvA := fun N => convB ((HA.out.reads.drewN N).bts hBL.out)
            have cvB := fun N => convB ((HBB.out.reads.drewN N).bts hBM.out)
            have hLr := HL.out.below HB.out
            have hMr := HM.out.below HB.out
            have f1 : decide ((mn : Int) ≤ (len : Int)) = true := by simp; omega
            have f2 : decide (mn ≤ len) = true := by simp; omega
            have f3 : mn ≤ len := hmn
            have sl2 := slice_up la len cap mn 22 (by omega) (by kernel_rfl) ho64
            have hup2 := hLr.upto mn hmn
            have D2 := Lib.hid (show decide (l.take mn = m) = true from decide_eq_true htk)
            have x1 : ∀ W, (Builtin.min_ #[3, 3] 3 #[.int .i64 (len : Int), .int .i64 (mn : Int)]).run Try.prog W = .ok (.int .i64 (mn : Int)) W := fun W => by
              rw [run_min_int2]
              congr 2
              split <;> omega
            have x2 : (if (mn : Int) < (len : Int) then (mn : Int) else (len : Int)) = (mn : Int) := by split <;> omega
            have x3 : (if mn < len then (mn : Int) else (len : Int)) = (mn : Int) := by split <;> omega
            go_wp2_with fail
            refine wp_region_quiet_lit (by kernel_rfl) (by kernel_rfl) ?_
            go_big_quiet_step (fail)
            go_big_quiet_step (fail)
            go_big_quiet_step (fail)
            go_big_quiet_step (fail)
            go_big_quiet_step (fail)
            go_big_quiet_step (fail)
            go_big_quiet_step (fail)
            go_big_quiet_step (fail)
            go_big_quiet_step (fail)
            go_big_quiet_step ((go_at_call 8; refine Calls.quiet_of (D1.out ▸ same_q la ma len cap mn mc l m _ (hLr.drewN _) (hMr.drewN _))))
            go_big_quiet_step (fail)
            go_big_quiet_step (fail)
            go_big_quiet_step (fail)
            go_big_quiet_step (fail)
            go_big_quiet_step (fail)
            go_big_quiet_step (fail)
            go_big_quiet_step (fail)
            go_big_quiet_step (fail)
            go_big_quiet_step (fail)
            go_big_quiet_step (fail)
            go_big_quiet_step (fail)
            go_big_quiet_step (fail)
            go_big_quiet_step (fail)
            go_big_quiet_step (fail)
            go_big_quiet_step (fail)
            go_big_quiet_step (fail)
            go_big_quiet_step (fail)
            go_big_quiet_step (fail)
            go_big_quiet_step ((go_at_call 8; refine Calls.quiet_of (D2.out ▸ same_q la ma mn cap mn mc (l.take mn) m _ (hup2.drewN _) (hMr.drewN _))))
            go_big_quiet_step (fail)
            go_big_quiet_step (fail)
            go_big_quiet_step (fail)
            go_big_quiet_step (fail)
            refine wpQuiet_nil ?_
            intro _ hw1
            obtain ⟨nq, hw2⟩ := hw1
            subst hw2
            go_wp2
            go_ret
            exact ⟨rfl, below_drewN HB.out nq⟩
        · have hnb : ¬ (m.length ≤ l.length ∧ l.take m.length = m) := fun e => hpre (by rw [hBN]; exact (hbeg.out.2 e).2)
          have hlm2 : l ≠ m := fun e => hnb ⟨by rw [e]; exact Nat.le_refl _, by rw [e]; exact List.take_of_length_le (Nat.le_refl _)⟩
          rcases Nat.lt_or_ge len mn with hmn | hmn
          · clear hAN hBN hLL hML hnb
            have b1 : (u8s A8 == u8s B8) = false := u8s_ne hBL.out hBM.out (fun e => hlm2 (hinj.out.1 e))
            have D1 := Lib.hid (show decide (l = m) = false from decide_eq_false hlm2)
            have e1 : decide ((bn : Int) ≤ (an : Int)) = true := by simp; omega
            have e2 : decide (bn ≤ an) = true := by simp; omega
            have e3 : bn ≤ an := hle
            have sl1 := slice_up aa an ac bn 24 (by omega) (by kernel_rfl) ho8
            have hup := HA.out.reads.upto bn hle
            have hBt : Byt (A8.take bn) := fun x hx => hBL.out x (List.mem_of_mem_take hx)
            have cvX := fun N => convB ((hup.drewN N).bts hBt)
            have cvY := fun N => convB ((HBB.out.reads.drewN N).bts hBM.out)
            have b2 : (u8s (A8.take bn) == u8s B8) = false := u8s_ne hBt hBM.out hpre
            clear hinj hbeg
            go_wp2_with fail
            go_big_quiet (fail)
            simp only [Exit.then]
            have HB := Lib.hid (below_drewN HB.out nq)
            have HA := Lib.hid (HA.out.drewN nq)
            have HBB := Lib.hid (HBB.out.drewN nq)
            generalize wr.drewN nq = w6 at *
            clear cvX cvY sl1 b2 hup
            have cvA := fun N => convB ((HA.out.reads.drewN N).bts hBL.out)
            have cvB := fun N => convB ((HBB.out.reads.drewN N).bts hBM.out)
            have hLr := HL.out.below HB.out
            have hMr := HM.out.below HB.out
            have f1 : decide ((mn : Int) ≤ (len : Int)) = false := by simp; omega
            have f2 : decide (mn ≤ len) = false := by simp; omega
            have f3 : ¬ mn ≤ len := by omega
            go_wp2_with fail
            refine wp_region_quiet_lit (by kernel_rfl) (by kernel_rfl) ?_
            go_big_quiet_step (fail)
            go_big_quiet_step (fail)
            go_big_quiet_step (fail)
            go_big_quiet_step (fail)
            go_big_quiet_step (fail)
            go_big_quiet_step (fail)
            go_big_quiet_step (fail)
            go_big_quiet_step (fail)
            go_big_quiet_step (fail)
            go_big_quiet_step ((go_at_call 8; refine Calls.quiet_of (D1.out ▸ same_q la ma len cap mn mc l m _ (hLr.drewN _) (hMr.drewN _))))
            go_big_quiet_step (fail)
            go_big_quiet_step (fail)
            go_big_quiet_step (fail)
            go_big_quiet_step (fail)
            go_big_quiet_step (fail)
            go_big_quiet_step (fail)
            go_big_quiet_step (fail)
            go_big_quiet_step (fail)
            go_big_quiet_step (fail)
            go_big_quiet_step (fail)
            go_big_quiet_step (fail)
            go_big_quiet_step (fail)
            go_big_quiet_step (fail)
            go_big_quiet_step (fail)
            go_big_quiet_step (fail)
            go_big_quiet_step (fail)
            go_big_quiet_step (fail)
            go_big_quiet_step (fail)
            go_big_quiet_step (fail)
            go_big_quiet_step (fail)
            go_big_quiet_step (fail)
            go_big_quiet_step (fail)
            go_big_quiet_step (fail)
            refine wpQuiet_nil ?_
            intro _ hw1
            obtain ⟨nq, hw2⟩ := hw1
            subst hw2
            go_wp2
            go_ret
            exact ⟨rfl, below_drewN HB.out nq⟩
          · have htk : l.take mn ≠ m := fun e => hnb ⟨by omega, by rw [hML]; exact e⟩
            clear hAN hBN hLL hML hnb
            have b1 : (u8s A8 == u8s B8) = false := u8s_ne hBL.out hBM.out (fun e => hlm2 (hinj.out.1 e))
            have D1 := Lib.hid (show decide (l = m) = false from decide_eq_false hlm2)
            have e1 : decide ((bn : Int) ≤ (an : Int)) = true := by simp; omega
            have e2 : decide (bn ≤ an) = true := by simp; omega
            have e3 : bn ≤ an := hle
            have sl1 := slice_up aa an ac bn 24 (by omega) (by kernel_rfl) ho8
            have hup := HA.out.reads.upto bn hle
            have hBt : Byt (A8.take bn) := fun x hx => hBL.out x (List.mem_of_mem_take hx)
            have cvX := fun N => convB ((hup.drewN N).bts hBt)
            have cvY := fun N => convB ((HBB.out.reads.drewN N).bts hBM.out)
            have b2 : (u8s (A8.take bn) == u8s B8) = false := u8s_ne hBt hBM.out hpre
            clear hinj hbeg
            go_wp2_with fail
            go_big_quiet (fail)
            simp only [Exit.then]
            have HB := Lib.hid (below_drewN HB.out nq)
            have HA := Lib.hid (HA.out.drewN nq)
            have HBB := Lib.hid (HBB.out.drewN nq)
            generalize wr.drewN nq = w6 at *
            clear cvX cvY sl1 b2 hup
            have cvA := fun N => convB ((HA.out.reads.drewN N).bts hBL.out)
            have cvB := fun N => convB ((HBB.out.reads.drewN N).bts hBM.out)
            have hLr := HL.out.below HB.out
            have hMr := HM.out.below HB.out
            have f1 : decide ((mn : Int) ≤ (len : Int)) = true := by simp; omega
            have f2 : decide (mn ≤ len) = true := by simp; omega
            have f3 : mn ≤ len := hmn
            have sl2 := slice_up la len cap mn 22 (by omega) (by kernel_rfl) ho64
            have hup2 := hLr.upto mn hmn
            have D2 := Lib.hid (show decide (l.take mn = m) = false from decide_eq_false htk)
            have x1 : ∀ W, (Builtin.min_ #[3, 3] 3 #[.int .i64 (len : Int), .int .i64 (mn : Int)]).run Try.prog W = .ok (.int .i64 (mn : Int)) W := fun W => by
              rw [run_min_int2]
              congr 2
              split <;> omega
            have x2 : (if (mn : Int) < (len : Int) then (mn : Int) else (len : Int)) = (mn : Int) := by split <;> omega
            have x3 : (if mn < len then (mn : Int) else (len : Int)) = (mn : Int) := by split <;> omega
            go_wp2_with fail
            refine wp_region_quiet_lit (by kernel_rfl) (by kernel_rfl) ?_
            go_big_quiet_step (fail)
            go_big_quiet_step (fail)
            go_big_quiet_step (fail)
            go_big_quiet_step (fail)
            go_big_quiet_step (fail)
            go_big_quiet_step (fail)
            go_big_quiet_step (fail)
            go_big_quiet_step (fail)
            go_big_quiet_step (fail)
            go_big_quiet_step ((go_at_call 8; refine Calls.quiet_of (D1.out ▸ same_q la ma len cap mn mc l m _ (hLr.drewN _) (hMr.drewN _))))
            go_big_quiet_step (fail)
            go_big_quiet_step (fail)
            go_big_quiet_step (fail)
            go_big_quiet_step (fail)
            go_big_quiet_step (fail)
            go_big_quiet_step (fail)
            go_big_quiet_step (fail)
            go_big_quiet_step (fail)
            go_big_quiet_step (fail)
            go_big_quiet_step (fail)
            go_big_quiet_step (fail)
            go_big_quiet_step (fail)
            go_big_quiet_step (fail)
            go_big_quiet_step (fail)
            go_big_quiet_step (fail)
            go_big_quiet_step (fail)
            go_big_quiet_step (fail)
            go_big_quiet_step (fail)
            go_big_quiet_step ((go_at_call 8; refine Calls.quiet_of (D2.out ▸ same_q la ma mn cap mn mc (l.take mn) m _ (hup2.drewN _) (hMr.drewN _))))
            go_big_quiet_step (fail)
            go_big_quiet_step (fail)
            go_big_quiet_step (fail)
            go_big_quiet_step (fail)
            refine wpQuiet_nil ?_
            intro _ hw1
            obtain ⟨nq, hw2⟩ := hw1
            subst hw2
            go_wp2
            go_ret
            exact ⟨rfl, below_drewN HB.out nq⟩
end Go.Proofs.Ytojphfkiblhhiaa
