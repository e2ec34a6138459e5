/-
  OID: the law OidForms. (Written by wip/gen_oidX.py.)
-/
import Derived.Test.YtojphfkiblhhiaaDoorOidW
namespace Go.Proofs.YtojphfkiblhhiaaDoor
open Go.RowKit
set_option maxRecDepth 100000

theorem str_app7 (l : List Nat) : strOf (u8s l) ++ ⟨#[7]⟩ = strOf (u8s (l ++ [7])) := ByteArray.ext (by simp [strOf, u8s, ByteArray.data_append])
theorem str_size (l : List Nat) : (strOf (u8s l)).size = l.length := by
  show (u8s l).toArray.size = _
  rw [List.size_toArray, u8s, List.length_map]
theorem convS {w : World} {a : Option Addr} {n c : Nat} {l : List Nat} (h : Reads .u8 w a n c l) (hb : Byt l) : (convert 38 9 (.slice a n c)).run Tryd.prog w = .ok (.string (strOf (u8s l))) w := convB (h.bts hb)
theorem byt_app {l m : List Nat} (h : Byt l) (k : Byt m) : Byt (l ++ m) := fun x hx => by
  rcases List.mem_append.1 hx with hx | hx
  · exact h x hx
  · exact k x hx
theorem byt_set {l : List Nat} (h : Byt l) (i y : Nat) (hy : y < 256) : Byt (l.set i y) := fun x hx => by
  rcases List.mem_or_eq_of_mem_set hx with hx | rfl
  · exact h x hx
  · exact hy
theorem byt_bytesR (l : List Nat) : Byt (bytesR l).1 := by
  unfold bytesR
  split
  · exact bytesO_byt l
  · exact fun x hx => by cases hx
theorem byt_named (s : List UInt8) : Byt (namedR s) := by
  unfold namedR
  split
  · exact bytesO_byt _
  · exact fun x hx => by cases hx
theorem named_len (s : List UInt8) : (namedR s).length ≤ 100000 := by
  unfold namedR
  split
  · rename_i x hx
    have hm := List.mem_of_find?_eq_some hx
    have h1 := (bytesO_len (numsT x.2)).2
    have h2 := (known_text hm).1.2.1
    omega
  · simp

set_option maxHeartbeats 8000000 in
theorem oforms_walk (la : Option Addr) (len cap : Nat) (l : List Nat) (ba : Option Addr) (bn bc : Nat) (b : List Nat) (s : List UInt8) (w : World) (hl : Reads .u64 w la len cap l) (hb0 : Reads .u8 w ba bn bc b) (hby : Byt b) (hL : Libs w) (hK : Knowns w) :
    Calls Tryd.prog 4 #[.slice la len cap, .slice ba bn bc, .string ⟨s.toArray⟩] w fun e w' => e = .returned (.bool true) ∧ Below w.heap.size w w' := by
  obtain ⟨i0, hi, hz0, hz1, hz2⟩ := info_parts infoU8
  have HL := Lib.hid hl
  have HLN := Lib.hid hl.length
  have HBI := Lib.hid hb0
  have HBN := Lib.hid hb0.length
  have HBY := Lib.hid hby
  have HLB := Lib.hid hL
  have HK := Lib.hid hK
  have hb1 := hl.len_le
  unfold maxLen at hb1
  have hb2 := hb0.len_le
  unfold maxLen at hb2
  clear hl hb0 hby hL hK
  by_cases h1 : 100 < len
  · skip
    have d1 : decide ((100 : Int) < (len : Int)) = true := decide_eq_true (by omega)
    have d1n : decide (100 < len) = true := decide_eq_true h1
    go_enter Tryd.func4, Tryd.ntmps4
    go_wp2
    go_ret
    exact ⟨rfl, Below.refl _ _⟩
  have d1 : decide ((100 : Int) < (len : Int)) = false := decide_eq_false (by omega)
  have d1n : decide (100 < len) = false := decide_eq_false h1
  by_cases h2 : 500 < bn
  · skip
    have d2 : decide ((500 : Int) < (bn : Int)) = true := decide_eq_true (by omega)
    have d2n : decide (500 < bn) = true := decide_eq_true h2
    go_enter Tryd.func4, Tryd.ntmps4
    go_wp2
    go_ret
    exact ⟨rfl, Below.refl _ _⟩
  have d2 : decide ((500 : Int) < (bn : Int)) = false := decide_eq_false (by omega)
  have d2n : decide (500 < bn) = false := decide_eq_false h2
  by_cases h3 : 500 < s.length
  · skip
    have d3 : decide ((500 : Int) < (s.length : Int)) = true := decide_eq_true (by omega)
    have d3n : decide (500 < s.length) = true := decide_eq_true h3
    go_enter Tryd.func4, Tryd.ntmps4
    go_wp2
    go_ret
    exact ⟨rfl, Below.refl _ _⟩
  have d3 : decide ((500 : Int) < (s.length : Int)) = false := decide_eq_false (by omega)
  have d3n : decide (500 < s.length) = false := decide_eq_false h3
  go_enter Tryd.func4, Tryd.ntmps4
  go_wp2_with (at_builtin; first | (refine wpList_append_q .u8 _ rfl _ _ 38 rfl w.heap.size 5 1 i0 Tryd.underlying38 hi hz0 hz1 hz2 (by decide) _ [] rfl (OwnQ.empty _ w _ _ (Nat.le_refl _)) _ _ _ b rfl (HBI.out.below ((Below.refl _ _).alloc (Nat.le_refl _) _)) (by simp; omega) (by simp) ?_; intro v2 w2 hown2 hgrow; rw [List.nil_append] at hown2; have HO2 := Lib.hid hown2; have HB2 := Lib.hid (hgrow w ((Below.refl w.heap.size w).alloc (Nat.le_refl _) _)); clear hown2 hgrow) | (refine wpList_append_q .u8 _ rfl _ _ 38 rfl w.heap.size 5 1 i0 Tryd.underlying38 hi hz0 hz1 hz2 (by decide) _ b rfl (HO2.out.alloc _) _ _ _ [7] rfl (Reads.one .u8 _ _ _ _ rfl) (by have := HBN.out; omega) (by have := HB2.out.size; simp; omega) ?_; intro v3 w3 hown3 hgrow3; obtain ⟨g8, c8, e3⟩ := hown3.succ (by simp); have e4 : List.length (b ++ [7] : List Nat) = bn + 1 := (by have := HBN.out; simp; omega); rw [e4] at e3; clear e4; subst e3; have HO := Lib.hid hown3; have hoc := hown3.cap.2; have hc8 : bn ≤ c8 := (by omega); have hcm8 : c8 ≤ 9223372036854775807 := (by have h9 := hoc.2; unfold maxLen at h9; omega); have HB := Lib.hid (hgrow3 w (HB2.out.alloc HB2.out.size _)); clear hown3 hgrow3 hoc))
  refine (twinO_any la len cap l _ (HL.out.below HB.out) (by omega)).mono ?_
  rintro e wn ⟨⟨g, c, rfl, hv⟩, hb⟩
  have HT := Lib.hid hv
  have hcc := hv.cap.2
  have hc1 : len ≤ c := by omega
  unfold maxLen at hcc
  have sl0 := slice_up (some ⟨g, 0, none⟩) (len + 1) c len 22 hc1 (by kernel_rfl) ho64
  have HTK := Lib.hid (show (l ++ [77]).take len = l by rw [← HLN.out, List.take_left])
  have HO := Lib.hid (HO.out.below hb)
  clear hv
  have HB := Lib.hid (HB.out.trans (hb.mono HB.out.size))
  clear hb
  obtain ⟨B1, e1, hB1⟩ : ∃ B1 e1, bytesR l = (B1, e1) := ⟨_, _, rfl⟩
  have HBB1 := Lib.hid (show Byt B1 by have := byt_bytesR l; rw [hB1] at this; exact this)
  have HB1 := Lib.hid hB1
  clear hB1
  go_wp2_with fail
  refine (bytes_any _ len c l _ (by have h9 := HT.out.reads.upto len (by omega); rw [HTK.out] at h9; exact h9)).mono ?_
  rintro e wn ⟨⟨xa, xn, xc, rfl, hv⟩, hb⟩
  rw [HB1.out] at hv ⊢
  dsimp only at hv ⊢
  have HX := Lib.hid hv
  have HO := Lib.hid (HO.out.below hb)
  clear hv
  have HB := Lib.hid (HB.out.trans (hb.mono HB.out.size))
  clear hb
  clear sl0 hc1 hcc
  go_wp2_with fail
  refine (refbytes_any la len cap l _ (HL.out.below HB.out)).mono ?_
  rintro e wn ⟨⟨ya, yn, yc, rfl, hv⟩, hb⟩
  rw [HB1.out] at hv ⊢
  dsimp only at hv ⊢
  have HY := Lib.hid hv
  have HO := Lib.hid (HO.out.below hb)
  have HX := Lib.hid (HX.out.below hb)
  clear hv
  have HB := Lib.hid (HB.out.trans (hb.mono HB.out.size))
  clear hb
  have sl8 := slice_up (some ⟨g8, 0, none⟩) (bn + 1) c8 bn 38 hc8 (by kernel_rfl) (fun _ => by kernel_rfl)
  have HTK8 := Lib.hid (show (b ++ [7]).take bn = b by rw [← HBN.out, List.take_left])
  obtain ⟨R1, e2, hR1⟩ : ∃ R1 e2, readO b = (R1, e2) := ⟨_, _, rfl⟩
  have HR1 := Lib.hid hR1
  clear hR1
  go_wp2_with fail
  refine (read_o _ bn c8 b _ (by have h9 := HO.out.reads.upto bn (by omega); rw [HTK8.out] at h9; exact h9) HBY.out (by omega)).mono ?_
  rintro e wn ⟨⟨ra, rn, rc, rfl, hv⟩, hb⟩
  rw [HR1.out] at hv ⊢
  dsimp only at hv ⊢
  have HR := Lib.hid hv
  have HO := Lib.hid (HO.out.below hb)
  have HX := Lib.hid (HX.out.below hb)
  have HY := Lib.hid (HY.out.below hb)
  clear hv
  have HB := Lib.hid (HB.out.trans (hb.mono HB.out.size))
  clear hb
  go_wp2_with fail
  refine (refread_any ba bn bc b _ (HBI.out.below HB.out) HBY.out (by omega)).mono ?_
  rintro e wn ⟨⟨qa, qn, qc, rfl, hv⟩, hb⟩
  rw [HR1.out] at hv ⊢
  dsimp only at hv ⊢
  have HQ := Lib.hid hv
  have HO := Lib.hid (HO.out.below hb)
  have HX := Lib.hid (HX.out.below hb)
  have HY := Lib.hid (HY.out.below hb)
  have HR := Lib.hid (HR.out.below hb)
  clear hv
  have HB := Lib.hid (HB.out.trans (hb.mono HB.out.size))
  clear hb
  have cvX := convS HX.out.reads HBB1.out
  have cvY := convS HY.out.reads HBB1.out
  have csz := str_size B1
  go_wp2_with fail
  refine (same_self ra qa rn rc qn qc R1 _ HR.out.reads HQ.out.reads).mono ?_
  rintro e wn ⟨rfl, hb⟩
  have HO := Lib.hid (HO.out.below hb)
  have HB := Lib.hid (HB.out.trans (hb.mono HB.out.size))
  clear hb
  clear cvX cvY csz HX HY HR HQ
  obtain ⟨N, hN⟩ : ∃ N, nameR b = N := ⟨_, rfl⟩
  have HN := Lib.hid hN
  clear hN
  go_wp2_with fail
  refine (name_any _ bn c8 b _ (by have h9 := HO.out.reads.upto bn (by omega); rw [HTK8.out] at h9; exact h9) HBY.out (by omega) (HLB.out.below HB.out) (HK.out.below HB.out)).mono ?_
  rintro e wn ⟨rfl, hb⟩
  rw [HN.out]
  have HO := Lib.hid (HO.out.below hb)
  have HB := Lib.hid (HB.out.trans (hb.mono HB.out.size))
  clear hb
  go_wp2_with fail
  refine (refname_any ba bn bc b _ (HBI.out.below HB.out) HBY.out).mono ?_
  rintro e wn ⟨rfl, hb⟩
  rw [HN.out]
  have HO := Lib.hid (HO.out.below hb)
  have HB := Lib.hid (HB.out.trans (hb.mono HB.out.size))
  clear hb
  have cvO := convS HO.out.reads (byt_app HBY.out (by intro x hx; obtain rfl := List.mem_singleton.1 hx; decide))
  have cvB := convS (HBI.out.below HB.out) HBY.out
  have ct := str_app7 b
  have cz : (strOf (u8s b)).size = bn := by rw [str_size, HBN.out]
  obtain ⟨M, hM⟩ : ∃ M, namedR s = M := ⟨_, rfl⟩
  have HMB := Lib.hid (show Byt M by rw [← hM]; exact byt_named s)
  have HML := Lib.hid (show M.length ≤ 100000 by rw [← hM]; exact named_len s)
  have HM := Lib.hid hM
  clear hM sl8
  go_wp2_with fail
  refine (named_any s _ (HLB.out.below HB.out) (HK.out.below HB.out)).mono ?_
  rintro e wn ⟨⟨xa, xn, xc, rfl, hv⟩, hb⟩
  rw [HM.out] at hv
  have HX := Lib.hid (hv.mono HB.out.size)
  clear hv
  have HB := Lib.hid (HB.out.trans (hb.mono HB.out.size))
  clear hb
  clear cvO cvB ct cz HO
  obtain ⟨SM, hSM⟩ : ∃ SM, strOf (u8s M) = SM := ⟨_, rfl⟩
  have HSM := Lib.hid hSM
  clear hSM
  have kb0 : ∀ N, (convert 38 9 (.slice xa xn xc)).run Tryd.prog (wn.drewN N) = .ok (.string SM) (wn.drewN N) := fun N => by rw [← HSM.out]; exact convS (HX.out.drewN N).reads HMB.out
  have kb1 : (convert 38 9 (.slice xa xn xc)).run Tryd.prog wn.drew = .ok (.string SM) wn.drew := by rw [← HSM.out]; exact convS (HX.out.drew).reads HMB.out
  clear kb0
  go_wp2_with fail
  refine wp_region_held_drew (S := fun W => (convert 38 9 (.slice xa xn xc)).run Tryd.prog W = .ok (.string SM) W) (by kernel_rfl) kb1 (fun hHeld => ?_)
  have HB := Lib.hid (HB.out.drew)
  have HX := Lib.hid (HX.out.drew)
  generalize wn.drew = wd at *
  refine' wpAnyH_take (i := 0) (oi := _) (v := _) rfl (by kernel_rfl) (by kernel_rfl) (by kernel_rfl) (fun _ _ _ h => h) (Or.inl ⟨?_, ?_⟩) (by assumption) ?_
  rotate_left
  all_goals (try simp only [List.getElem_toArray, List.getElem_cons_succ, List.getElem_cons_zero])
  · rfl
  · intro W hSw; (try dsimp only at hSw); go_simp; (try with_reducible rfl)
  try simp only [Act.put, List.setIfInBounds_toArray, List.set_cons_zero, List.set_cons_succ]
  refine' wpAnyH_take (i := 1) (oi := _) (v := _) rfl (by kernel_rfl) (by kernel_rfl) (by kernel_rfl) (fun _ _ _ h => h) (Or.inl ⟨?_, ?_⟩) (by assumption) ?_
  rotate_left
  all_goals (try simp only [List.getElem_toArray, List.getElem_cons_succ, List.getElem_cons_zero])
  · rfl
  · intro W hSw; (try dsimp only at hSw); go_simp; (try with_reducible rfl)
  try simp only [Act.put, List.setIfInBounds_toArray, List.set_cons_zero, List.set_cons_succ]
  refine' wpAnyH_take (i := 2) (oi := _) (v := _) rfl (by kernel_rfl) (by kernel_rfl) (by kernel_rfl) (fun _ _ _ h => h) (Or.inl ⟨?_, ?_⟩) (by assumption) ?_
  rotate_left
  all_goals (try simp only [List.getElem_toArray, List.getElem_cons_succ, List.getElem_cons_zero])
  · rfl
  · intro W hSw; (try dsimp only at hSw); go_simp; (try with_reducible rfl)
  try simp only [Act.put, List.setIfInBounds_toArray, List.set_cons_zero, List.set_cons_succ]
  refine wpAnyH_ready (rs := [3]) (by kernel_rfl) (by simp) ?_
  refine AllReadyH.cons (o := _) rfl (fun K hK => ?_) AllReadyH.nil
  try simp only [List.getElem_toArray, List.getElem_cons_succ, List.getElem_cons_zero]
  go_simp
  refine (refnamed_any s _).mono ?_; rintro e w4 ⟨⟨za, zn, zc, rfl, hv⟩, hb⟩; rw [HM.out] at hv; have HZ := Lib.hid hv; have HB4 := Lib.hid (HB.out.trans (hb.mono HB.out.size)); have HX4 := Lib.hid (HX.out.below hb); have kb1 : (convert 38 9 (.slice xa xn xc)).run Tryd.prog w4 = .ok (.string SM) w4 := (by rw [← HSM.out]; exact convS HX4.out.reads HMB.out); have kz : (convert 38 9 (.slice za zn zc)).run Tryd.prog w4 = .ok (.string SM) w4 := (by rw [← HSM.out]; exact convS HZ.out.reads HMB.out); clear hv hb
  go_wp2_with fail
  refine hK.out _ _ kb1 (fun hHeld => ?_)
  clear hK K
  try simp only [Act.put, List.setIfInBounds_toArray, List.set_cons_zero, List.set_cons_succ]
  refine wpAnyH_ready (rs := [4]) (by kernel_rfl) (by simp) ?_
  refine AllReadyH.cons (o := _) rfl (fun K hK => ?_) AllReadyH.nil
  try simp only [List.getElem_toArray, List.getElem_cons_succ, List.getElem_cons_zero]
  go_simp
  refine hK.out _ _ kb1 (fun hHeld => ?_)
  clear hK K
  try simp only [Act.put, List.setIfInBounds_toArray, List.set_cons_zero, List.set_cons_succ]
  refine wpAnyH_ready (rs := [5]) (by kernel_rfl) (by simp) ?_
  refine AllReadyH.cons (o := _) rfl (fun K hK => ?_) AllReadyH.nil
  try simp only [List.getElem_toArray, List.getElem_cons_succ, List.getElem_cons_zero]
  go_simp
  refine hK.out _ _ kb1 (fun hHeld => ?_)
  clear hK K
  try simp only [Act.put, List.setIfInBounds_toArray, List.set_cons_zero, List.set_cons_succ]
  refine wpAnyH_done (by kernel_rfl) ?_ _
  clear kz kb1 HZ
  have hxn := HX4.out.cap
  unfold maxLen at hxn
  have HXL := Lib.hid hxn.1
  obtain ⟨hxn0, hxn1, hxn2⟩ := hxn
  clear hxn0
  have HBE := Lib.hid (Below.refl w4.heap.size w4)
  go_wp2_with fail
  go_loopw [113] (fun iv wr => ∃ i : Nat, iv = .int .i64 (i : Int) ∧ i ≤ xn ∧ Hid (∃ l3 : List Nat, l3.length = xn ∧ Byt l3 ∧ OwnQ .u8 5 w.heap.size wr (.slice xa xn xc) l3 ∧ Below w.heap.size w wr)) (fun iv _ => xn + 1 - (intOf iv).toNat)
  case atStart => exact ⟨0, rfl, by omega, Lib.hid ⟨M, HXL.out.symm, HMB.out, HX4.out, HB4.out⟩⟩
  case round =>
    obtain ⟨i, rfl, hi1, hI⟩ := hrel
    obtain ⟨l3, hl3, hlb, hoA, hbq⟩ := hI.out
    by_cases hlt : i < xn
    · have tl : decide ((i : Int) < (xn : Int)) = true := decide_eq_true (by omega)
      obtain ⟨gg, c1', hg⟩ := hoA.succ (by intro e; subst e; simp at hl3; omega)
      obtain ⟨rfl, -, rfl⟩ : xa = some ⟨gg, 0, .none⟩ ∧ xn = l3.length ∧ xc = c1' := by simpa using hg
      obtain ⟨x, hx⟩ : ∃ x, x = l3[i]?.getD 0 := ⟨_, rfl⟩
      have hx256 : x < 256 := by rw [hx, List.getElem?_eq_getElem (by omega)]; exact hlb _ (List.getElem_mem _)
      have cx := hoA.cellAt hl3.symm i hlt
      rw [← hx] at cx
      have fx := hoA.frozenAt hl3.symm i
      obtain ⟨y, hy⟩ : ∃ y, y = (x + 1) % 256 := ⟨_, rfl⟩
      have hw : IntKind.u8.wrap ((x : Int) + 1) = (y : Int) := by rw [IntKind.wrap_u8]; omega
      have hy256 : y < 256 := by omega
      have HST := Lib.hid (hoA.stored hl3.symm i y (y : Int) rfl)
      have HLL := Lib.hid hl3
      have HLBB := Lib.hid hlb
      have HBQ := Lib.hid hbq
      clear hl3 hlb hoA hbq hx hy hI hg HX4 HX
      go_wp2
      go_roundw
      case rel => exact ⟨i + 1, by go_num, by omega, l3.set i y, by rw [List.length_set]; exact HLL.out, byt_set HLBB.out i y hy256, HST.out.1, HST.out.2 _ HBQ.out⟩
      case measure => simp [intOf] <;> omega
    · have tl : decide ((i : Int) < (xn : Int)) = false := decide_eq_false (by omega)
      have HBZ := Lib.hid hbq
      clear hl3 hlb hoA hbq hI HX4 HX
      go_wp2_with fail
      refine (named_any s _ (HLB.out.below HBZ.out) (HK.out.below HBZ.out)).mono ?_
      rintro e wn2 ⟨⟨ua, un, uc, rfl, hv⟩, hb⟩
      rw [HM.out] at hv
      have HX := Lib.hid hv
      have HB5 := Lib.hid (HBZ.out.trans (hb.mono HBZ.out.size))
      have kb1 : (convert 38 9 (.slice ua un uc)).run Tryd.prog wn2.drew = .ok (.string SM) wn2.drew := by rw [← HSM.out]; exact convS (hv.drew).reads HMB.out
      clear hv hb
      go_wp2_with fail
      refine wp_region_held_drew (S := fun W => (convert 38 9 (.slice ua un uc)).run Tryd.prog W = .ok (.string SM) W) (by kernel_rfl) kb1 (fun hHeld => ?_)
      have HB5 := Lib.hid (HB5.out.drew)
      have HX := Lib.hid (HX.out.drew)
      generalize wn2.drew = wd2 at *
      refine' wpAnyH_take (i := 0) (oi := _) (v := _) rfl (by kernel_rfl) (by kernel_rfl) (by kernel_rfl) (fun _ _ _ h => h) (Or.inl ⟨?_, ?_⟩) (by assumption) ?_
      rotate_left
      all_goals (try simp only [List.getElem_toArray, List.getElem_cons_succ, List.getElem_cons_zero])
      · rfl
      · intro W hSw; (try dsimp only at hSw); go_simp; (try with_reducible rfl)
      try simp only [Act.put, List.setIfInBounds_toArray, List.set_cons_zero, List.set_cons_succ]
      refine' wpAnyH_take (i := 1) (oi := _) (v := _) rfl (by kernel_rfl) (by kernel_rfl) (by kernel_rfl) (fun _ _ _ h => h) (Or.inl ⟨?_, ?_⟩) (by assumption) ?_
      rotate_left
      all_goals (try simp only [List.getElem_toArray, List.getElem_cons_succ, List.getElem_cons_zero])
      · rfl
      · intro W hSw; (try dsimp only at hSw); go_simp; (try with_reducible rfl)
      try simp only [Act.put, List.setIfInBounds_toArray, List.set_cons_zero, List.set_cons_succ]
      refine' wpAnyH_take (i := 2) (oi := _) (v := _) rfl (by kernel_rfl) (by kernel_rfl) (by kernel_rfl) (fun _ _ _ h => h) (Or.inl ⟨?_, ?_⟩) (by assumption) ?_
      rotate_left
      all_goals (try simp only [List.getElem_toArray, List.getElem_cons_succ, List.getElem_cons_zero])
      · rfl
      · intro W hSw; (try dsimp only at hSw); go_simp; (try with_reducible rfl)
      try simp only [Act.put, List.setIfInBounds_toArray, List.set_cons_zero, List.set_cons_succ]
      refine wpAnyH_ready (rs := [3]) (by kernel_rfl) (by simp) ?_
      refine AllReadyH.cons (o := _) rfl (fun K hK => ?_) AllReadyH.nil
      try simp only [List.getElem_toArray, List.getElem_cons_succ, List.getElem_cons_zero]
      go_simp
      refine (refnamed_any s _).mono ?_; rintro e w6 ⟨⟨za, zn, zc, rfl, hv⟩, hb⟩; rw [HM.out] at hv; have HZ := Lib.hid hv; have HB6 := Lib.hid (HB5.out.trans (hb.mono HB5.out.size)); have HX6 := Lib.hid (HX.out.below hb); have kb1 : (convert 38 9 (.slice ua un uc)).run Tryd.prog w6 = .ok (.string SM) w6 := (by rw [← HSM.out]; exact convS HX6.out.reads HMB.out); have kz : (convert 38 9 (.slice za zn zc)).run Tryd.prog w6 = .ok (.string SM) w6 := (by rw [← HSM.out]; exact convS HZ.out.reads HMB.out); clear hv hb
      go_wp2_with fail
      refine hK.out _ _ kb1 (fun hHeld => ?_)
      clear hK K
      try simp only [Act.put, List.setIfInBounds_toArray, List.set_cons_zero, List.set_cons_succ]
      refine wpAnyH_ready (rs := [4]) (by kernel_rfl) (by simp) ?_
      refine AllReadyH.cons (o := _) rfl (fun K hK => ?_) AllReadyH.nil
      try simp only [List.getElem_toArray, List.getElem_cons_succ, List.getElem_cons_zero]
      go_simp
      refine hK.out _ _ kb1 (fun hHeld => ?_)
      clear hK K
      try simp only [Act.put, List.setIfInBounds_toArray, List.set_cons_zero, List.set_cons_succ]
      refine wpAnyH_ready (rs := [5]) (by kernel_rfl) (by simp) ?_
      refine AllReadyH.cons (o := _) rfl (fun K hK => ?_) AllReadyH.nil
      try simp only [List.getElem_toArray, List.getElem_cons_succ, List.getElem_cons_zero]
      go_simp
      refine hK.out _ _ kb1 (fun hHeld => ?_)
      clear hK K
      try simp only [Act.put, List.setIfInBounds_toArray, List.set_cons_zero, List.set_cons_succ]
      refine wpAnyH_ready (rs := [6]) (by kernel_rfl) (by simp) ?_
      refine AllReadyH.cons (o := _) rfl (fun K hK => ?_) AllReadyH.nil
      try simp only [List.getElem_toArray, List.getElem_cons_succ, List.getElem_cons_zero]
      go_simp
      refine hK.out _ _ kb1 (fun hHeld => ?_)
      clear hK K
      try simp only [Act.put, List.setIfInBounds_toArray, List.set_cons_zero, List.set_cons_succ]
      refine wpAnyH_done (by kernel_rfl) ?_ _
      go_wp2
      go_ret
      exact ⟨rfl, HB6.out⟩
end Go.Proofs.YtojphfkiblhhiaaDoor
