/-
  Layer 8: the law MaskApart. (Written by wip/gen_mkQ.py.)
-/
import Derived.Test.YtmfjhgjplmpecaaDoorMk4
import Derived.Test.YtmfjhgjplmpecaaDoorMkM
namespace Go.Proofs.YtmfjhgjplmpecaaDoor
open Go.RowKit Go.Shelf
set_option maxRecDepth 100000

/-- A digest, cut, or filled up. -/
def fillD (g : Nat) (A : List Nat) : List Nat := (A ++ List.replicate 64 0).take (mSize g)
theorem fillD_len {g : Nat} (hg : IsHash g) (A : List Nat) : (fillD g A).length = mSize g := by
  have := mSize_le hg
  rw [fillD, List.length_take, List.length_append, List.length_replicate]
  omega
theorem fillD_byt {g : Nat} {A : List Nat} (h : Byt A) : Byt (fillD g A) := fun x hx => by
  rcases List.mem_append.1 (List.mem_of_mem_take hx) with h1 | h1
  · exact h x h1
  · rw [List.eq_of_mem_replicate h1]; decide

theorem enc_len (h P : Nat) (d : List Nat) : (mEncP h P d).length = 22 + P + d.length := by
  simp [mEncP, frameL, frameH_len]
  omega
theorem enc_at (h P : Nat) (d : List Nat) (i : Nat) (hi : i < P) : (mEncP h P d)[2 + i]? = some 255 := by
  unfold mEncP
  rw [List.append_assoc, List.append_assoc, List.getElem?_append_right (by simp), List.getElem?_append_left (by simp; omega)]
  simp [hi]
theorem enc_end (h P : Nat) (d : List Nat) : (mEncP h P d)[2 + P]? = some 0 := by
  unfold mEncP
  rw [List.append_assoc, List.append_assoc, List.getElem?_append_right (by simp), List.getElem?_append_right (by simp)]
  simp
theorem enc_drop (h P : Nat) (d : List Nat) : (mEncP h P d).drop (3 + P) = frameL h d := by
  unfold mEncP
  rw [List.drop_append_of_le_length (by simp; omega), List.drop_of_length_le (by simp; omega), List.nil_append]
theorem mSize_inj {g h : Nat} (hg : IsHash g) (hh : IsHash h) (e : mSize g = mSize h) : g = h := by
  rcases hg with rfl | rfl | rfl | rfl <;> rcases hh with rfl | rfl | rfl | rfl <;> first | rfl | (simp [mSize] at e)
theorem enc_inj {g h P Q : Nat} {X Y : List Nat} (hg : IsHash g) (hh : IsHash h) (hX : X.length = mSize g) (hY : Y.length = mSize h) (hl : mSize g + P = mSize h + Q) (e : mEncP g P X = mEncP h Q Y) : g = h ∧ X = Y := by
  have hPQ : P = Q := by
    rcases Nat.lt_trichotomy P Q with h1 | h1 | h1
    · have a1 := enc_end g P X
      rw [e, enc_at h Q Y P h1] at a1
      cases a1
    · exact h1
    · have a1 := enc_end h Q Y
      rw [← e, enc_at g P X Q h1] at a1
      cases a1
  subst hPQ
  have hgh := mSize_inj hg hh (by omega)
  subst hgh
  refine ⟨rfl, ?_⟩
  have a1 := enc_drop g P X
  rw [e, enc_drop] at a1
  exact (List.append_cancel_left a1).symm
theorem strOf_ne {l m : List Nat} (hl : Byt l) (hm : Byt m) (h : l ≠ m) : ((strOf (u8s l)).toList == (strOf (u8s m)).toList) = false := by
  rw [Bool.eq_false_iff]
  intro he
  have h1 : (strOf (u8s l)).toList = (strOf (u8s m)).toList := by simpa using he
  have h2 : ∀ b : List UInt8, (strOf b).toList = b := fun b => by simp [strOf]
  rw [h2, h2] at h1
  exact h (u8s_inj hl hm h1)

set_option maxHeartbeats 4000000 in
theorem apart_walk (n m : Nat) (hn : n < 256) (hm : m < 256) (a : Option Addr) (la ca : Nat) (A : List Nat) (b : Option Addr) (lb cb : Nat) (B : List Nat) (sz : Nat) (hsz : sz < 65536) (w : World) (hk : Kinds w)
    (hA : Reads .u8 w a la ca A) (hAb : Byt A) (hla : la ≤ 140737488351232) (hB : Reads .u8 w b lb cb B) (hBb : Byt B) (hlb : lb ≤ 140737488351232) :
    Calls Tryd.prog 7 #[.int .u8 (n : Int), .int .u8 (m : Int), .slice a la ca, .slice b lb cb, .int .u16 (sz : Int)] w fun e w' => e = .returned (.bool true) ∧ Below w.heap.size w w' := by
  obtain ⟨i0, hi, hz0, hz1, hz2⟩ := info_parts infoMk
  have HA := Lib.hid hA
  have HB := Lib.hid hB
  have HLA := Lib.hid hA.length
  have HLB := Lib.hid hB.length
  have HAB := Lib.hid hAb
  have HBB := Lib.hid hBb
  have HK := Lib.hid hk
  have HHN := Lib.hid hn
  have HHM := Lib.hid hm
  obtain ⟨g, hg⟩ : ∃ g, g = 1 + n % 4 := ⟨_, rfl⟩
  obtain ⟨h, hh⟩ : ∃ h, h = 1 + m % 4 := ⟨_, rfl⟩
  have HG := Lib.hid (hg ▸ isHash_m n)
  have HH := Lib.hid (hh ▸ isHash_m m)
  have HGE := Lib.hid hg
  have HHE := Lib.hid hh
  have hg4 : 1 ≤ g ∧ g ≤ 4 := isHash_lt HG.out
  have hh4 : 1 ≤ h ∧ h ≤ 4 := isHash_lt HH.out
  obtain ⟨long, hlong⟩ : ∃ long, long = 94 + sz % 500 := ⟨_, rfl⟩
  obtain ⟨sr, hsr⟩ : ∃ sr, sr = sz % 500 := ⟨_, rfl⟩
  have hrm : Int.tmod (sz : Int) 500 = (sr : Int) := by
    rw [Int.tmod_eq_emod_of_nonneg (by omega)]
    omega
  have hlg : 94 + (sr : Int) = (long : Int) := by omega
  have hlb1 : 94 ≤ long ∧ long < 594 := by omega
  clear hA hB hAb hBb hk hn hm hg hh hlong hsr
  go_enter Tryd.func7, Tryd.ntmps7
  go_wp2_with fail
  refine (alive_m w HK.out).mono ?_
  rintro e w1 ⟨rfl, h1⟩
  have HB1 := Lib.hid h1
  clear h1
  go_wp2_with fail
  refine (hash_m n HHN.out w1).mono ?_
  rintro e w1' ⟨rfl, rfl⟩
  rw [← HGE.out]
  go_wp2_with fail
  refine (hash_m m HHM.out w1).mono ?_
  rintro e w1' ⟨rfl, rfl⟩
  rw [← HHE.out]
  go_wp2_with (at_builtin; first
    | (refine wpList_append_q1 .u8 _ rfl _ _ 23 rfl w1.heap.size 5 i0 Tryd.underlying23 hi hz0 hz1 hz2 _ [] rfl (OwnQ.empty .u8 w1 _ _ (Nat.le_refl _)) a la ca A rfl (HA.out.below (HB1.out.alloc HB1.out.size _)) (by simp; omega) (by simp) ?_; intro v2 w2A hown hgrow; rw [List.nil_append] at hown; have HO2 := Lib.hid hown; have HB2 := Lib.hid (hgrow w1 ((Below.refl _ _).alloc (Nat.le_refl _) _)); clear hown hgrow)
    | (refine wpList_append_noughtsM _ rfl _ _ 23 3 rfl w1.heap.size 5 i0 Tryd.underlying23 Tryd.underlying3 hi hz0 hz1 hz2 _ A rfl HO2.out 64 (by decide) rfl (by rw [HLA.out]; omega) (by decide) HB2.out.size ?_; intro v3 w3A hown hgrow; obtain ⟨xA, nA, cA, rfl, hxn, ho⟩ := own_slM hown; have HOA := Lib.hid ho; have HNA := Lib.hid (show nA = la + 64 by rw [hxn, List.length_append, HLA.out, List.length_replicate]); have hAc : nA ≤ cA := ho.cap.2.1; have HB3 := Lib.hid (hgrow w1 HB2.out); clear hown hgrow hxn ho HO2 HB2))
  have HB4 := Lib.hid (HB1.out.trans (HB3.out.mono HB1.out.size))
  refine (size_yes g HG.out w3A (HK.out.below HB4.out)).mono ?_
  rintro e w4 ⟨rfl, h4⟩
  obtain ⟨sg, hsg⟩ : ∃ s, s = mSize g := ⟨_, rfl⟩
  have hsgb : 28 ≤ sg ∧ sg ≤ 64 := by rw [hsg]; exact mSize_le HG.out
  rw [← hsg]
  have HXA := Lib.hid (show OwnQ .u8 5 _ w4 (.slice xA sg cA) (fillD g A) by
    have h1 := (HOA.out.below h4).upto sg (by have := HNA.out; omega)
    rw [hsg] at h1 ⊢
    exact h1)
  have Hsg := Lib.hid hsg
  have hsgc : sg ≤ cA := by have := HNA.out; omega
  have HB5 := Lib.hid (HB4.out.trans (h4.mono HB4.out.size))
  have h5c := Lib.hid h4
  clear h4 hsg HOA
  go_wp2_with (at_builtin; first
    | (refine wpList_append_q1 .u8 _ rfl _ _ 23 rfl w4.heap.size 5 i0 Tryd.underlying23 hi hz0 hz1 hz2 _ [] rfl (OwnQ.empty .u8 w4 _ _ (Nat.le_refl _)) b lb cb B rfl (HB.out.below (HB5.out.alloc HB5.out.size _)) (by simp; omega) (by simp) ?_; intro v2 w2B hown hgrow; rw [List.nil_append] at hown; have HO2 := Lib.hid hown; have HB2 := Lib.hid (hgrow w4 ((Below.refl _ _).alloc (Nat.le_refl _) _)); clear hown hgrow)
    | (refine wpList_append_noughtsM _ rfl _ _ 23 3 rfl w4.heap.size 5 i0 Tryd.underlying23 Tryd.underlying3 hi hz0 hz1 hz2 _ B rfl HO2.out 64 (by decide) rfl (by rw [HLB.out]; omega) (by decide) HB2.out.size ?_; intro v3 w3B hown hgrow; obtain ⟨xB, nB, cB, rfl, hxn, ho⟩ := own_slM hown; have HOB := Lib.hid ho; have HNB := Lib.hid (show nB = lb + 64 by rw [hxn, List.length_append, HLB.out, List.length_replicate]); have hBc : nB ≤ cB := ho.cap.2.1; have HB3 := Lib.hid (hgrow w4 HB2.out); clear hown hgrow hxn ho HO2 HB2))
  have HB6 := Lib.hid (HB5.out.trans (HB3.out.mono HB5.out.size))
  refine (size_yes h HH.out w3B (HK.out.below HB6.out)).mono ?_
  rintro e w5 ⟨rfl, h4⟩
  obtain ⟨sh, hsh⟩ : ∃ s, s = mSize h := ⟨_, rfl⟩
  have hshb : 28 ≤ sh ∧ sh ≤ 64 := by rw [hsh]; exact mSize_le HH.out
  rw [← hsh]
  have HXB := Lib.hid (show OwnQ .u8 5 _ w5 (.slice xB sh cB) (fillD h B) by
    have h1 := (HOB.out.below h4).upto sh (by have := HNB.out; omega)
    rw [hsh] at h1 ⊢
    exact h1)
  have Hsh := Lib.hid hsh
  have hshc : sh ≤ cB := by have := HNB.out; omega
  have HB7 := Lib.hid (HB6.out.trans (h4.mono HB6.out.size))
  have h5c := Lib.hid h4
  clear h4 hsh HOB
  have HXA := Lib.hid (HXA.out.below (HB3.out.trans (h5c.out.mono HB3.out.size)))
  go_wp2_with fail
  refine (encode_yes g HG.out xA sg cA (fillD g A) long w5 (HK.out.below HB7.out) HXA.out.reads Hsg.out (by omega) (by omega)).mono ?_
  rintro e w6 ⟨⟨v, rfl, ho0⟩, hb⟩
  obtain ⟨cc, nc, kc, rfl, hnc, ho⟩ := own_slM ho0
  clear ho0
  obtain ⟨P, hP⟩ : ∃ P, P = long - (19 + sg) - 3 := ⟨_, rfl⟩
  have hlP : long = 22 + P + sg := by omega
  have eC : encL g (fillD g A) long = mEncP g P (fillD g A) := by unfold encL; rw [hP, Hsg.out]
  rw [eC] at hnc ho
  rw [enc_len, fillD_len HG.out, ← Hsg.out, ← hlP] at hnc
  subst hnc
  have HC := Lib.hid ho
  have HXA := Lib.hid (HXA.out.below hb)
  have HXB := Lib.hid (HXB.out.below hb)
  have HB8 := Lib.hid (HB7.out.trans (hb.mono HB7.out.size))
  have HLP := Lib.hid hlP
  clear ho hb hP eC hlP
  go_wp2_with fail
  refine (encode_yes h HH.out xB sh cB (fillD h B) nc w6 (HK.out.below HB8.out) HXB.out.reads Hsh.out (by omega) (by omega)).mono ?_
  rintro e w7 ⟨⟨v, rfl, ho0⟩, hb⟩
  obtain ⟨dc, nd, kd, rfl, hnd, ho⟩ := own_slM ho0
  clear ho0
  obtain ⟨Q, hQ⟩ : ∃ Q, Q = nc - (19 + sh) - 3 := ⟨_, rfl⟩
  have hlQ : nc = 22 + Q + sh := by omega
  have eD : encL h (fillD h B) nc = mEncP h Q (fillD h B) := by unfold encL; rw [hQ, Hsh.out]
  rw [eD] at hnd ho
  rw [enc_len, fillD_len HH.out, ← Hsh.out, ← hlQ] at hnd
  subst hnd
  have HD := Lib.hid ho
  have HC := Lib.hid (HC.out.below hb)
  have HXA := Lib.hid (HXA.out.below hb)
  have HXB := Lib.hid (HXB.out.below hb)
  have HB9 := Lib.hid (HB8.out.trans (hb.mono HB8.out.size))
  have HLQ := Lib.hid hlQ
  clear ho hb hQ eD hlQ
  go_wp2_with fail
  refine (frame_yes g HG.out xA sg cA (fillD g A) w7 (HK.out.below HB9.out) HXA.out.reads Hsg.out).mono ?_
  rintro e w8 ⟨⟨v, rfl, ho0⟩, hb⟩
  obtain ⟨fc, nf, kf, rfl, hnf, ho⟩ := own_slM ho0
  clear ho0
  rw [frameL, List.length_append, frameH_len, fillD_len HG.out, ← Hsg.out] at hnf
  have HF := Lib.hid ho
  have HC := Lib.hid (HC.out.below hb)
  have HD := Lib.hid (HD.out.below hb)
  have HXA := Lib.hid (HXA.out.below hb)
  have HXB := Lib.hid (HXB.out.below hb)
  have HB10 := Lib.hid (HB9.out.trans (hb.mono HB9.out.size))
  have HNF := Lib.hid hnf
  clear ho hb
  have hnfP : nd = nf + (3 + P) := by have := HLP.out; omega
  obtain ⟨gc, kc', hgc⟩ := HC.out.succ (by unfold mEncP; simp)
  rw [enc_len, fillD_len HG.out, ← Hsg.out, ← HLP.out] at hgc
  obtain ⟨rfl, rfl⟩ : cc = some ⟨gc, 0, .none⟩ ∧ kc = kc' := by simpa using hgc
  have cl : nd = (mEncP g P (fillD g A)).length := HC.out.cap.1
  have c0 := HC.out.cellAt cl 0 (by omega)
  have c1 := HC.out.cellAt cl 1 (by omega)
  have cq := HC.out.cellAt cl (2 + P) (by omega)
  rw [show (mEncP g P (fillD g A))[0]?.getD 0 = 0 from rfl] at c0
  rw [show (mEncP g P (fillD g A))[1]?.getD 0 = 1 from rfl] at c1
  rw [enc_end] at cq
  obtain ⟨p, hp⟩ : ∃ p, p = 3 + P := ⟨_, rfl⟩
  obtain ⟨q, hq⟩ : ∃ q, q = 2 + P := ⟨_, rfl⟩
  rw [← hq] at cq
  have hs1 : (nd : Int) - (nf : Int) = (p : Int) := by omega
  have hs2 : (p : Int) - 1 = (q : Int) := by omega
  have hqn : q < nd := by omega
  have hpn : p ≤ nd := by omega
  have hkc : nd ≤ kc := HC.out.cap.2.1
  have hkp : kc ≠ p := by omega
  have hfn : nd - p = nf := by omega
  have HP := Lib.hid hp
  have HQ := Lib.hid hq
  have HNP := Lib.hid hnfP
  have bC : Byt (mEncP g P (fillD g A)) := byt_appM (byt_appM (byt_appM (by decide) (fun x hx => by rw [List.eq_of_mem_replicate hx]; decide)) (by decide)) (frameL_byt HG.out (fillD_byt HAB.out))
  have bD : Byt (mEncP h Q (fillD h B)) := byt_appM (byt_appM (byt_appM (by decide) (fun x hx => by rw [List.eq_of_mem_replicate hx]; decide)) (by decide)) (frameL_byt HH.out (fillD_byt HBB.out))
  have cvF := fun N => convB ((HF.out.reads.drewN N).bts (frameL_byt HG.out (fillD_byt HAB.out)))
  have hrs := HC.out.reads.sub p nd hpn (Nat.le_refl _)
  rw [if_neg hkp, List.take_of_length_le (by rw [← cl]; exact Nat.le_refl _), hp, enc_drop, ← hp, hfn] at hrs
  have cvS := fun N => convB ((hrs.drewN N).bts (frameL_byt HG.out (fillD_byt HAB.out)))
  have BC := Lib.hid bC
  have BD := Lib.hid bD
  clear hrs hnf hgc cl hp hq hnfP bC bD
  simp only [Option.map_some, Addr.add_lit, Nat.zero_add] at cvS
  go_wp2_with fail
  go_big_quiet (fail)
  simp only [Exit.then]
  have HC := Lib.hid (HC.out.drewN nq)
  have HD := Lib.hid (HD.out.drewN nq)
  have HXA := Lib.hid (HXA.out.drewN nq)
  have HXB := Lib.hid (HXB.out.drewN nq)
  have HB11 := Lib.hid (show Below w.heap.size w (w8.drewN nq) from HB10.out.trans ⟨rfl, rfl, rfl, Nat.le_refl _, fun _ _ => rfl⟩)
  clear cvF cvS c0 c1 cq HF
  generalize w8.drewN nq = w9 at *
  go_wp2_with fail
  go_loopw [23] (fun kv wq => ∃ k : Nat, kv = .int .i64 (k : Int) ∧ 2 ≤ k ∧ k ≤ q ∧ Hid (wq = w9)) (fun kv _ => q - (intOf kv).toNat)
  case atStart => exact ⟨2, rfl, Nat.le_refl _, by have := HQ.out; omega, rfl⟩
  case round =>
    obtain ⟨k, rfl, hk2, hkq, hI⟩ := hrel
    obtain rfl := hI.out
    by_cases hlt : k < q
    · have tl : decide ((k : Int) < (q : Int)) = true := by simp; omega
      have ck := HC.out.cellAt (by rw [enc_len, fillD_len HG.out, ← Hsg.out]; exact HLP.out) k (by omega)
      rw [show k = 2 + (k - 2) by omega, enc_at _ _ _ _ (by have := HQ.out; omega), show 2 + (k - 2) = k by omega] at ck
      go_wp2
      go_roundw
      case rel => exact ⟨k + 1, by go_num, by omega, by omega, trivial⟩
      case measure => simp [intOf] <;> omega
    · have tl : decide ((k : Int) < (q : Int)) = false := by simp; omega
      clear hI
      have cvC := convB (HC.out.reads.bts BC.out)
      have cvD := convB (HD.out.reads.bts BD.out)
      have cvX := convB (HXA.out.reads.bts (fillD_byt HAB.out))
      have cvY := convB (HXB.out.reads.bts (fillD_byt HBB.out))
      by_cases hgh : g = h
      · by_cases hxy : fillD g A = fillD h B
        · have hPQ : P = Q := by have h1 := HLP.out; have h2 := HLQ.out; have h3 := Hsg.out; have h4 := Hsh.out; rw [hgh] at h3; omega
          rw [← hxy, ← hgh, ← hPQ] at cvD
          rw [← hxy] at cvY
          have tg : ((g : Int) == (h : Int)) = true := by rw [hgh]; simp
          clear hgh hxy hPQ
          go_wp2
          go_ret
          exact ⟨by simp, HB11.out⟩
        · have te := strOf_ne BC.out BD.out (fun e => hxy (by
            obtain ⟨-, h2⟩ := enc_inj HG.out HH.out (fillD_len HG.out A) (fillD_len HH.out B) (by have h1 := HLP.out; have h2 := HLQ.out; have h3 := Hsg.out; have h4 := Hsh.out; omega) e
            exact h2))
          have tx := strOf_ne (fillD_byt HAB.out) (fillD_byt HBB.out) hxy
          have tg : ((g : Int) == (h : Int)) = true := by rw [hgh]; simp
          clear hgh hxy
          go_wp2
          go_ret
          exact ⟨by simp, HB11.out⟩
      · have te := strOf_ne BC.out BD.out (fun e => hgh (by
          obtain ⟨h1, -⟩ := enc_inj HG.out HH.out (fillD_len HG.out A) (fillD_len HH.out B) (by have h1 := HLP.out; have h2 := HLQ.out; have h3 := Hsg.out; have h4 := Hsh.out; omega) e
          exact h1))
        have tg : ((g : Int) == (h : Int)) = false := by simp; omega
        clear hgh
        go_wp2
        go_ret
        exact ⟨by simp, HB11.out⟩


end Go.Proofs.YtmfjhgjplmpecaaDoor
