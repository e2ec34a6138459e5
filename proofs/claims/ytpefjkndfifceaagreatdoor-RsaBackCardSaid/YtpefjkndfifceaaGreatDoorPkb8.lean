/- Part of the proofs: what the functions that the law calls do. -/
import Derived.Test.YtpefjkndfifceaaGreatDoorPkb6
import Derived.Test.YtpefjkndfifceaaGreatDoorPkb7
import Derived.Stop.RegionWithIn
import Derived.BigRegionIn
import Derived.Laws.ResultCell
open Go.Lib renaming hid → zH
open List renaming setIfInBounds_toArray → zq1, set_cons_zero → zq2, set_cons_succ → zq3, getElem_toArray → zq4, getElem_cons_succ → zq5, getElem_cons_zero → zq6
set_option linter.unusedVariables false
set_option linter.unusedSimpArgs false
namespace Go.Proofs.YtpefjkndfifceaaGreatDoor
open Go.RowKit
set_option maxRecDepth 100000
def testsP (h sn : Nat) (b : List Nat) (n : Nat) : List Bool :=
 let S := mSize h
 let K := lenP n - S - 1
 let M := maskedP h (b.take K) ((b.drop K).take S) n
 let a := K - sn - 1
 [true, (b.drop (K + S))[0]?.getD 0 == 188, (b.take K)[0]?.getD 0 &&& (255 ^^^ lowP n) == 0, true, (Oc.bareL (u8s (M.take a))).length == 0, (((M.drop a).take 1)[0]?.getD 0) == 1]
def PartsAt (bp : Nat) (I s : List Nat) (W : World) : Prop := ∃ ia ic sa sc B, bp < B ∧ W.cell? ⟨bp, 0, none⟩ = some (.slice ia I.length ic) ∧ W.cell? ⟨bp, 1, none⟩ = some (.slice sa s.length sc) ∧ OwnQ .u8 5 B W (.slice ia I.length ic) I ∧ OwnQ .u8 5 B W (.slice sa s.length sc) s
theorem int_beq (a b : Nat) : ((a : Int) == (b : Int)) = (a == b) := by
 by_cases h : a = b
 ·subst h; simp
 ·have h2 : ¬ (a : Int) = (b : Int) := by omega
  rw [beq_eq_false_iff_ne.2 h, beq_eq_false_iff_ne.2 h2]
theorem OwnQ.kp {q : IntKind} {E B : Nat} {w X : World} {v : Value} {l : List Nat} {Ex : Nat → Prop} (h : OwnQ q E B w v l) (hk : KpV Ex w X) (hn : ∀ k, B ≤ k → ¬ Ex k) : OwnQ q E B X v l := by
 obtain ⟨h1, h2⟩ := h
 refine ⟨h1, ?_⟩
 rcases h2 with h2 | ⟨g, cap, cur, rfl, hB, hg, rest⟩
 ·exact .inl h2
 ·exact .inr ⟨g, cap, cur, rfl, hB, by rw [hk.2 g (Array.getElem?_eq_some_iff.1 hg).1 (hn g hB)]; exact hg, rest⟩
theorem OwnQ.blk {q : IntKind} {E B : Nat} {w : World} {g n c : Nat} {l : List Nat} (h : OwnQ q E B w (.slice (some ⟨g, 0, none⟩) n c) l) : B ≤ g := by
 rcases h.2 with ⟨h, -⟩ | ⟨_, _, _, h, hb, -⟩
 ·cases h
 ·cases h; exact hb
theorem grown_cellP (W : World) (a : Addr) (v : Value) : W.grownBy (W.setCell a v) (some a.block) :=
 ⟨rfl, rfl, rfl, (KeepsWalks.setCell W _ v).size, fun k _ hk => Below.heap_setCell _ _ _ k (fun e => hk (by rw [e]))⟩
theorem grown_drewP (w : World) : w.grownBy w.drew none := ⟨rfl, rfl, rfl, Nat.le_refl _, fun _ _ _ => rfl⟩
theorem cut_prop {X Y : Prop} (f : Hid X → Y) (x : X) : Y := f (zH x)
theorem u8_xor_nat (x y : Nat) (hx : x < 256) (hy : y < 256) : bits BinOp.xor IntKind.u8 (x : Int) (y : Int) = ((x ^^^ y : Nat) : Int) := by
 have := Oc.xor8 (UInt8.ofNat x) (UInt8.ofNat y)
 rw [UInt8.toNat_xor, UInt8.toNat_ofNat', UInt8.toNat_ofNat', Nat.mod_eq_of_lt (show x < 2 ^ 8 from hx), Nat.mod_eq_of_lt (show y < 2 ^ 8 from hy)] at this
 exact this
def encBp (x : Bool) : Array Value := #[.bool x]
theorem KpV.below {E : Nat → Prop} {W X : World} (h : Below W.heap.size W X) : KpV E W X := ⟨h.size, fun k hk _ => h.block k hk⟩
theorem KpV.cellP {E : Nat → Prop} {W X : World} (h : KpV E W X) {a : Addr} {v : Value} (hv : W.cell? a = some v) (hn : ¬ E a.block) : X.cell? a = some v := (World.cell?_of_block (h.2 a.block (World.block_lt_of_cell? W a hv) hn)).trans hv
theorem KpV.drewR {E : Nat → Prop} {W X : World} (h : KpV E W X) : KpV E W X.drew := h
set_option maxHeartbeats 4000000 in
theorem looks_come (m : Nat) (hm1 : 1 ≤ m) (h : Nat) (hh : IsHash h) (ba : Option Addr) (bn bc : Nat) (b : List Nat) (sn n : Nat) (w : World) (hk : Kinds w) (hr : Reads .u8 w ba bn bc b) (hby : Byt b) (hroom : RoomP (h : Int) (sn : Int) (n : Int)) (hbn : bn = lenP n) (hn100 : n ≤ 100000)
  (B bh bb bi bz bpp bp bw : Nat) (hGB : 0 < B) (hab : 0 < bn → ∀ x, ba = some x → x.block < B)
  (xh : Boxed w bh 26 (.int .i64 (h : Int))) (xb : Boxed w bb 22 (.slice ba bn bc)) (xi : Boxed w bi 3 (.int .i64 (n : Int))) (xz : Boxed w bz 3 (.int .i64 (sn : Int))) (xp : Boxed w bpp 201 (.pointer (some ⟨bp, 0, none⟩)))
  (xq : w.heap[bp]? = some (.cells #[.slice none 0 0, .slice none 0 0] 120)) (hBw : B ≤ bw) (hbw : bw < w.heap.size) (hBp : B ≤ bp) (hbp : bp < w.heap.size) (n1 : bh ≠ bw) (n2 : bb ≠ bw) (n3 : bi ≠ bw) (n4 : bz ≠ bw) (n5 : bpp ≠ bw) (n6 : bp ≠ bw) (n7 : bpp ≠ bp) :
  SeqV (fun k => k = bp) (fun k => k = bw) Fence.wide m Tryz.prog 171 #[.pointer (some ⟨bh, 0, none⟩), .pointer (some ⟨bb, 0, none⟩), .pointer (some ⟨bi, 0, none⟩), .pointer (some ⟨bz, 0, none⟩), .pointer (some ⟨bpp, 0, none⟩)] encBp (fun x => x = true) (fun xs => xs = testsP h sn b n) (fun pre => ∃ r, pre ++ r = testsP h sn b n)
   (PartsAt bp ((b.drop (lenP n - mSize h - 1)).take (mSize h)) ((maskedP h (b.take (lenP n - mSize h - 1)) ((b.drop (lenP n - mSize h - 1)).take (mSize h)) n).drop (lenP n - mSize h - 1 - sn))) w := fun lp J Jx W hlp hlW hW hJ hJx hY h0 => by
 have HJ := zH hJ
 have HY := zH hY
 have HJ0 := zH h0
 have HH := zH hh
 have HBY := zH hby
 have BH := zH (show Boxed W bh 26 (.int .i64 (h : Int)) from (hW.block bh xh.lt).trans xh)
 have BB := zH (show Boxed W bb 22 (.slice ba bn bc) from (hW.block bb xb.lt).trans xb)
 have BI := zH (show Boxed W bi 3 (.int .i64 (n : Int)) from (hW.block bi xi.lt).trans xi)
 have BZ := zH (show Boxed W bz 3 (.int .i64 (sn : Int)) from (hW.block bz xz.lt).trans xz)
 have BP := zH (show Boxed W bpp 201 (.pointer (some ⟨bp, 0, none⟩)) from (hW.block bpp xp.lt).trans xp)
 have HLT := zH (show bh < w.heap.size ∧ bb < w.heap.size ∧ bi < w.heap.size ∧ bz < w.heap.size ∧ bpp < w.heap.size from ⟨xh.lt, xb.lt, xi.lt, xz.lt, xp.lt⟩)
 have BQ := zH ((hW.block bp hbp).trans xq)
 have HN7 := zH n7
 have HK := zH (hk.below hW)
 have HR := zH (hr.below hW)
 have HRL := zH hr.length
 have HNE := zH (show bh ≠ bw ∧ bb ≠ bw ∧ bi ≠ bw ∧ bz ≠ bw ∧ bpp ≠ bw ∧ bp ≠ bw from ⟨n1, n2, n3, n4, n5, n6⟩)
 have HSZ := zH (show w.heap.size ≤ lp ∧ lp < W.heap.size ∧ w.heap.size ≤ W.heap.size ∧ B ≤ bw ∧ bw < w.heap.size ∧ B ≤ bp ∧ bp < w.heap.size from ⟨hlp, hlW, hW.size, hBw, hbw, hBp, hbp⟩)
 obtain ⟨-, -, -, hn5, hfit⟩ := hroom
 rw [Int.toNat_natCast, Int.toNat_natCast] at hfit
 obtain ⟨N, hN⟩ : ∃ N, lenP n = N := ⟨_, rfl⟩
 obtain ⟨S, hSS⟩ : ∃ S, mSize h = S := ⟨_, rfl⟩
 have hS := mSize_le hh
 have hN2 : N ≤ 20000 := by rw [← hN]; unfold lenP; omega
 rw [hN, hSS] at hfit ⊢
 rw [hN] at hbn
 rw [hSS] at hS
 obtain ⟨K, hK⟩ : ∃ K, N = K + S + 1 := ⟨N - S - 1, by omega⟩
 obtain ⟨a, ha⟩ : ∃ a, K = a + 1 + sn := ⟨K - sn - 1, by omega⟩
 rw [show N - S - 1 = K by omega, show K - sn = a + 1 by omega]
 have hTL0 : testsP h sn b n = [true, (b.drop (K + S))[0]?.getD 0 == 188, (b.take K)[0]?.getD 0 &&& (255 ^^^ lowP n) == 0, true, (Oc.bareL (u8s ((maskedP h (b.take K) ((b.drop K).take S) n).take a))).length == 0, ((((maskedP h (b.take K) ((b.drop K).take S) n).drop a).take 1)[0]?.getD 0) == 1] := by
  unfold testsP
  dsimp only
  rw [hN, hSS, show N - S - 1 = K by omega, show K - sn - 1 = a by omega]
 generalize testsP h sn b n = TL at hTL0 ⊢
 generalize hTT : PartsAt bp _ _ = TT
 have HTL := zH hTL0
 have HTT := zH hTT
 have e1 : (N : Int) - (S : Int) - 1 = (K : Int) := by omega
 have cH := BH.out.cell
 have cB := BB.out.cell
 have HSS := zH hSS
 have HNN := zH hN
 have HKA := zH (And.intro hK ha)
 subst hbn
 clear xq hTL0 hTT hJ hJx hY h0 hk hr hby hh hW xh xb xi xz xp n1 n2 n3 n4 n5 n6 n7 hlp hlW hBw hbw hBp hbp hSS hN hK ha hfit
 refine callsIn_of_wp Tryz.func171 rfl trivial ?_ rfl
 simp only [Tryz.ntmps171, List.size_toArray, List.length_cons, List.length_nil, Nat.reduceAdd, Nat.reduceSub, Array.replicate_succ, Array.replicate_zero, List.push_toArray, List.append_toArray, List.nil_append, List.cons_append]
 gi_wp2_with fail
 refine ⟨trivial, ?_⟩
 refine (callsIn_wide.2 (size_yes h HH.out _ HK.out)).mono ?_
 rintro e w1 ⟨rfl, hb⟩
 rw [HSS.out]
 have HB := zH hb
 have cB := (show Boxed w1 bb 22 (.slice ba bn bc) from (HB.out.block bb BB.out.lt).trans BB.out).cell
 clear hb cH
 gi_wp2_with fail
 refine ⟨trivial, ?_⟩
 refine (callsIn_wide.2 (cut_lit ba bn bc b K S 1 _ (HR.out.below HB.out) HBY.out HKA.out.1 (by omega))).mono ?_
 rintro e w2 ⟨⟨v, rfl, hv⟩, hb⟩
 have HT := zH hv
 have HB2 := zH (HB.out.trans (hb.mono HB.out.size))
 clear hv hb cB
 gi_wp2_with fail
 obtain ⟨A, hA⟩ : ∃ A, b.take K = A := ⟨_, rfl⟩
 obtain ⟨I, hI⟩ : ∃ I, (b.drop K).take S = I := ⟨_, rfl⟩
 obtain ⟨Z, hZ⟩ : ∃ Z, b.drop (K + S) = Z := ⟨_, rfl⟩
 have lA : A.length = K := by rw [← hA, List.length_take, HRL.out]; have := HKA.out; omega
 have lI : I.length = S := by rw [← hI, List.length_take, List.length_drop, HRL.out]; have := HKA.out; omega
 have lZ : Z.length = 1 := by rw [← hZ, List.length_drop, HRL.out]; have := HKA.out; omega
 rw [hA, hI, hZ] at HT
 have hK1 : 1 ≤ K := by have := HKA.out; omega
 have hK0 : 0 < K := hK1
 have HK5 := zH (show K ≤ 50000 ∧ S ≤ 1048000 ∧ n ≤ 1000000000 by have := HKA.out; omega)
 obtain ⟨g, c, xa, xc, ya, yc, za, zc, rfl, hg, hgl, hc3, q0, q1, q2, o0, o1, o2⟩ := HT.out.open
 obtain ⟨gA, cA, eA⟩ := o0.succ (by intro e; rw [e] at lA; simp at lA; omega)
 obtain ⟨gI, cI, eI⟩ := o1.succ (by intro e; rw [e] at lI; simp at lI; omega)
 obtain ⟨gZ, cZ, eZ⟩ := o2.succ (by intro e; rw [e] at lZ; simp at lZ)
 rw [eA, lA] at o0
 rw [eI, lI] at o1
 rw [eZ, lZ] at o2
 rw [eA, lA] at q0
 rw [eI, lI] at q1
 rw [eZ, lZ] at q2
 clear eA eI eZ xa xc ya yc za zc
 obtain ⟨x, hx0⟩ : ∃ x, A[0]?.getD 0 = x := ⟨_, rfl⟩
 obtain ⟨z, hz0⟩ : ∃ z, Z[0]?.getD 0 = z := ⟨_, rfl⟩
 have hAb : Byt A := hA ▸ byt_take HBY.out K
 have hIb : Byt I := hI ▸ byt_take (byt_drop HBY.out K) S
 have hZb : Byt Z := hZ ▸ byt_drop HBY.out (K + S)
 have hx256 : x < 256 := by
  rw [← hx0, List.getElem?_eq_getElem (by omega)]
  exact hAb _ (List.getElem_mem _)
 have hz256 : z < 256 := by
  rw [← hz0, List.getElem?_eq_getElem (by omega)]
  exact hZb _ (List.getElem_mem _)
 have q3 : w2.cell? ⟨gA, 0, none⟩ = some (.int .u8 (x : Int)) := by
  rw [← hx0]
  exact o0.cellAt lA.symm 0 (by omega)
 have q4 : w2.cell? ⟨gZ, 0, none⟩ = some (.int .u8 (z : Int)) := by
  rw [← hz0]
  exact o2.cellAt lZ.symm 0 (by omega)
 have gb : ∀ {g c n : Nat} {l : List Nat}, OwnQ .u8 5 (w1.heap.size + 1) w2 (.slice (some ⟨g, 0, none⟩) n c) l → w1.heap.size + 1 ≤ g := fun h => by
  rcases h.2 with ⟨h, -⟩ | ⟨_, _, _, h, hb, -⟩
  ·cases h
  ·cases h; exact hb
 have gA1 := gb o0
 have gI1 := gb o1
 have gZ1 := gb o2
 have hz1 := HB.out.size
 have hsz := HSZ.out
 have HK2 := zH ((KpV.refl (fun k => k = lp ∨ k = bw) w2).drewR)
 have HKP := zH (show KpV (fun k => k = lp ∨ k = bw) W w2.drew from (KpV.below HB2.out).drewR)
 have HNG := zH (show (∀ k, w1.heap.size + 1 ≤ k → ¬ (k = lp ∨ k = bw)) from fun k hk => by omega)
 have J1 := HJ.out _ _ _ none HJ0.out (grown_below (HB2.out.trans ((Below.refl _ _).drew.mono HB2.out.size)) none) (fun r e => by cases e)
 obtain ⟨M, hM⟩ : ∃ M, maskedP h A I n = M := ⟨_, rfl⟩
 obtain ⟨lw, hlw⟩ : ∃ lw, lowP n = lw := ⟨_, rfl⟩
 have hlw256 : lw < 256 := hlw ▸ lowP_lt n
 obtain ⟨t2, ht2⟩ : ∃ t, (z == 188) = t := ⟨_, rfl⟩
 obtain ⟨t3, ht3⟩ : ∃ t, (x &&& (255 ^^^ lw) == 0) = t := ⟨_, rfl⟩
 obtain ⟨t5, ht5⟩ : ∃ t, ((Oc.bareL (u8s (M.take a))).length == 0) = t := ⟨_, rfl⟩
 obtain ⟨t6, ht6⟩ : ∃ t, (((M.drop a).take 1)[0]?.getD 0 == 1) = t := ⟨_, rfl⟩
 have HTL2 := zH (show TL = [true, t2, t3, true, t5, t6] by rw [HTL.out, hA, hI, hZ, hx0, hz0, hM, hlw, ht2, ht3, ht5, ht6])
 have HT2 := zH ht2
 have HT3 := zH ht3
 have HT5 := zH ht5
 have HT6 := zH ht6
 have HM := zH hM
 have HLOW := zH (fun (W : World) => low_p n (by omega) W)
 have HLW := zH hlw
 have b2 : ((z : Int) == 188) = t2 := by rw [← ht2]; exact int_beq z 188
 have d2 : decide ((z : Int) = 188) = t2 := by rw [← b2]; rfl
 obtain ⟨nl, hnl⟩ : ∃ nl, 255 ^^^ lw = nl := ⟨_, rfl⟩
 have hnl256 : nl < 256 := by rw [← hnl]; exact Nat.xor_lt_two_pow (n := 8) (by decide) hlw256
 have hxo : bits BinOp.xor IntKind.u8 IntKind.u8.max (lw : Int) = (nl : Int) := by
  rw [← hnl]
  exact u8_xor_nat 255 lw (by decide) hlw256
 obtain ⟨y, hy⟩ : ∃ y, x &&& nl = y := ⟨_, rfl⟩
 have hy256 : y < 256 := by rw [← hy]; exact Nat.lt_of_le_of_lt Nat.and_le_left hx256
 have hand : bits BinOp.and IntKind.u8 (x : Int) (nl : Int) = (y : Int) := by
  rw [← hy]
  exact u8_and_nat x nl hx256 hnl256
 have b3 : ((y : Int) == 0) = t3 := by rw [← ht3, hnl, hy]; exact int_beq y 0
 have d3 : decide ((y : Int) = 0) = t3 := by rw [← b3]; rfl
 have HO := zH (And.intro o0 (And.intro o1 o2))
 have HLS := zH (And.intro hA (And.intro hI (And.intro hZ (And.intro lA (And.intro lI (And.intro lZ (And.intro hx0 hz0)))))))
 have HBS := zH (And.intro hAb (And.intro hIb hZb))
 clear hnl hy ht2 ht3 ht5 ht6 hM hlw o0 o1 o2 hA hI hZ lA lI lZ hx0 hz0 hAb hIb hZb gb hsz hz1
 refine wpIn_region_any (by kernel_rfl) ?_
 try (change wpAnyIn _ _ _ _ _ _ _ _ _ (World.drew _))
 simp only [List.size_toArray, List.length_cons, List.length_nil, Nat.reduceAdd, Array.replicate_succ, Array.replicate_zero, List.push_toArray, List.append_toArray, List.nil_append, List.cons_append]
 refine' wpAnyIn_take (i := 0) rfl rfl (by kernel_rfl) (by kernel_rfl) (by kernel_rfl) (fun _ _ _ h => h) ⟨Or.inl ⟨?_, ?_⟩, fun _ => rfl⟩ ?_
 rotate_left
 all_goals (try simp only [zq4, zq5, zq6])
 ·first | kernel_rfl | rfl
 ·intro W; go_simp; (try rw [if_pos hK0]); (try with_reducible rfl)
 try simp only [Act.put, zq1, zq2, zq3]
 refine' wpAnyIn_take (i := 1) rfl rfl (by kernel_rfl) (by kernel_rfl) (by kernel_rfl) (fun _ _ _ h => h) ⟨Or.inl ⟨?_, ?_⟩, fun _ => rfl⟩ ?_
 rotate_left
 all_goals (try simp only [zq4, zq5, zq6])
 ·first | kernel_rfl | rfl
 ·intro W; go_simp; (try rw [if_pos hK0]); (try with_reducible rfl)
 try simp only [Act.put, zq1, zq2, zq3]
 refine' wpAnyIn_take (i := 2) rfl rfl (by kernel_rfl) (by kernel_rfl) (by kernel_rfl) (fun _ _ _ h => h) ⟨Or.inl ⟨?_, ?_⟩, fun _ => rfl⟩ ?_
 rotate_left
 all_goals (try simp only [zq4, zq5, zq6])
 ·first | kernel_rfl | rfl
 ·intro W; go_simp; (try rw [if_pos hK0]); (try with_reducible rfl)
 try simp only [Act.put, zq1, zq2, zq3]
 obtain ⟨fn, tmps, assign, body, hy, hR⟩ := HY.out [] true w2.drew J1
 simp only [encBp] at hy
 have HRR := zH hR
 clear hR
 refine wpAnyIn_ready (rs := [3]) (by kernel_rfl) (by simp) ?_
 refine AllReadyIn.cons (o := _) rfl (fun K hK => ?_) (AllReadyIn.nil)
 try simp only [zq4, zq5, zq6]
 go_simp
 gi_wp2_with fail
 refine HRR.out.mono ?_
 rintro e W3 (⟨rfl, hgx, hJ3, hk3⟩ | ⟨rfl, hx3⟩)
 rotate_left
 ·have HX3 := zH hx3
  clear hx3
  gi_wp2_with fail
  try simp only [Act.put, zq1, zq2, zq3]
  refine' wpAnyIn_take (i := 4) rfl rfl (by kernel_rfl) (by kernel_rfl) (by kernel_rfl) (fun _ _ _ h => h) ⟨Or.inl ⟨?_, ?_⟩, fun _ => rfl⟩ ?_
  rotate_left
  all_goals (try simp only [zq4, zq5, zq6])
  ·first | kernel_rfl | rfl
  ·intro W; go_simp; (try rw [if_pos hK0]); (try with_reducible rfl)
  try simp only [Act.put, zq1, zq2, zq3]
  refine' wpAnyIn_take (i := 5) rfl rfl (by kernel_rfl) (by kernel_rfl) (by kernel_rfl) (fun _ _ _ h => h) ⟨Or.inl ⟨?_, ?_⟩, fun _ => rfl⟩ ?_
  rotate_left
  all_goals (try simp only [zq4, zq5, zq6])
  ·first | kernel_rfl | rfl
  ·intro W; go_simp; (try rw [if_pos hK0]); (try with_reducible rfl)
  try simp only [Act.put, zq1, zq2, zq3]
  refine wpAnyIn_take (i := 6) (oi := _) (v := undef) rfl rfl (by kernel_rfl) (by kernel_rfl) (by kernel_rfl) (fun _ _ _ h => h) ⟨Or.inr ⟨by kernel_rfl, rfl⟩, fun _ => rfl⟩ ?_
  try simp only [Act.put, zq1, zq2, zq3]
  refine wpAnyIn_take (i := 7) (oi := _) (v := undef) rfl rfl (by kernel_rfl) (by kernel_rfl) (by kernel_rfl) (fun _ _ _ h => h) ⟨Or.inr ⟨by kernel_rfl, rfl⟩, fun _ => rfl⟩ ?_
  try simp only [Act.put, zq1, zq2, zq3]
  refine wpAnyIn_take (i := 8) (oi := _) (v := undef) rfl rfl (by kernel_rfl) (by kernel_rfl) (by kernel_rfl) (fun _ _ _ h => h) ⟨Or.inr ⟨by kernel_rfl, rfl⟩, fun _ => rfl⟩ ?_
  try simp only [Act.put, zq1, zq2, zq3]
  refine wpAnyIn_take (i := 9) (oi := _) (v := undef) rfl rfl (by kernel_rfl) (by kernel_rfl) (by kernel_rfl) (fun _ _ _ h => h) ⟨Or.inr ⟨by kernel_rfl, rfl⟩, fun _ => rfl⟩ ?_
  try simp only [Act.put, zq1, zq2, zq3]
  refine wpAnyIn_take (i := 10) (oi := _) (v := undef) rfl rfl (by kernel_rfl) (by kernel_rfl) (by kernel_rfl) (fun _ _ _ h => h) ⟨Or.inr ⟨by kernel_rfl, rfl⟩, fun _ => rfl⟩ ?_
  try simp only [Act.put, zq1, zq2, zq3]
  refine wpAnyIn_take (i := 11) (oi := _) (v := undef) rfl rfl (by kernel_rfl) (by kernel_rfl) (by kernel_rfl) (fun _ _ _ h => h) ⟨Or.inr ⟨by kernel_rfl, rfl⟩, fun _ => rfl⟩ ?_
  try simp only [Act.put, zq1, zq2, zq3]
  refine wpAnyIn_take (i := 12) (oi := _) (v := undef) rfl rfl (by kernel_rfl) (by kernel_rfl) (by kernel_rfl) (fun _ _ _ h => h) ⟨Or.inr ⟨by kernel_rfl, rfl⟩, fun _ => rfl⟩ ?_
  try simp only [Act.put, zq1, zq2, zq3]
  refine wpAnyIn_ready (rs := [13]) (by kernel_rfl) (by simp) ?_
  refine AllReadyIn.cons (o := _) rfl (fun K hK => ?_) AllReadyIn.nil
  try simp only [zq4, zq5, zq6]
  rw [if_neg (by rw [show Region.wanted _ _ = false by kernel_rfl]; exact Bool.false_ne_true)]
  refine ⟨fun _ _ => trivial, hK _ _ ?_⟩
  clear hK K
  try simp only [Act.put, zq1, zq2, zq3]
  refine wpAnyIn_take (i := 14) (oi := _) (v := undef) rfl rfl (by kernel_rfl) (by kernel_rfl) (by kernel_rfl) (fun _ _ _ h => h) ⟨Or.inr ⟨by kernel_rfl, rfl⟩, fun _ => rfl⟩ ?_
  try simp only [Act.put, zq1, zq2, zq3]
  refine' wpAnyIn_take (i := 15) rfl rfl (by kernel_rfl) (by kernel_rfl) (by kernel_rfl) (fun _ _ _ h => h) ⟨Or.inl ⟨?_, ?_⟩, fun _ => rfl⟩ ?_
  rotate_left
  all_goals (try simp only [zq4, zq5, zq6])
  ·first | kernel_rfl | rfl
  ·intro W; go_simp; (try rw [if_pos hK0]); (try with_reducible rfl)
  try simp only [Act.put, zq1, zq2, zq3]
  refine' wpAnyIn_take (i := 16) rfl rfl (by kernel_rfl) (by kernel_rfl) (by kernel_rfl) (fun _ _ _ h => h) ⟨Or.inl ⟨?_, ?_⟩, fun _ => rfl⟩ ?_
  rotate_left
  all_goals (try simp only [zq4, zq5, zq6])
  ·first | kernel_rfl | rfl
  ·intro W; go_simp; (try rw [if_pos hK0]); (try with_reducible rfl)
  try simp only [Act.put, zq1, zq2, zq3]
  refine wpAnyIn_take (i := 17) (oi := _) (v := undef) rfl rfl (by kernel_rfl) (by kernel_rfl) (by kernel_rfl) (fun _ _ _ h => h) ⟨Or.inr ⟨by kernel_rfl, rfl⟩, fun _ => rfl⟩ ?_
  try simp only [Act.put, zq1, zq2, zq3]
  refine wpAnyIn_take (i := 18) (oi := _) (v := undef) rfl rfl (by kernel_rfl) (by kernel_rfl) (by kernel_rfl) (fun _ _ _ h => h) ⟨Or.inr ⟨by kernel_rfl, rfl⟩, fun _ => rfl⟩ ?_
  try simp only [Act.put, zq1, zq2, zq3]
  refine wpAnyIn_take (i := 19) (oi := _) (v := undef) rfl rfl (by kernel_rfl) (by kernel_rfl) (by kernel_rfl) (fun _ _ _ h => h) ⟨Or.inr ⟨by kernel_rfl, rfl⟩, fun _ => rfl⟩ ?_
  try simp only [Act.put, zq1, zq2, zq3]
  refine wpAnyIn_take (i := 20) (oi := _) (v := undef) rfl rfl (by kernel_rfl) (by kernel_rfl) (by kernel_rfl) (fun _ _ _ h => h) ⟨Or.inr ⟨by kernel_rfl, rfl⟩, fun _ => rfl⟩ ?_
  try simp only [Act.put, zq1, zq2, zq3]
  refine wpAnyIn_take (i := 21) (oi := _) (v := undef) rfl rfl (by kernel_rfl) (by kernel_rfl) (by kernel_rfl) (fun _ _ _ h => h) ⟨Or.inr ⟨by kernel_rfl, rfl⟩, fun _ => rfl⟩ ?_
  try simp only [Act.put, zq1, zq2, zq3]
  refine wpAnyIn_take (i := 22) (oi := _) (v := undef) rfl rfl (by kernel_rfl) (by kernel_rfl) (by kernel_rfl) (fun _ _ _ h => h) ⟨Or.inr ⟨by kernel_rfl, rfl⟩, fun _ => rfl⟩ ?_
  try simp only [Act.put, zq1, zq2, zq3]
  refine wpAnyIn_take (i := 23) (oi := _) (v := undef) rfl rfl (by kernel_rfl) (by kernel_rfl) (by kernel_rfl) (fun _ _ _ h => h) ⟨Or.inr ⟨by kernel_rfl, rfl⟩, fun _ => rfl⟩ ?_
  try simp only [Act.put, zq1, zq2, zq3]
  refine wpAnyIn_ready (rs := [24]) (by kernel_rfl) (by simp) ?_
  refine AllReadyIn.cons (o := _) rfl (fun K hK => ?_) AllReadyIn.nil
  try simp only [zq4, zq5, zq6]
  rw [if_neg (by rw [show Region.wanted _ _ = false by kernel_rfl]; exact Bool.false_ne_true)]
  refine ⟨fun _ _ => trivial, hK _ _ ?_⟩
  clear hK K
  try simp only [Act.put, zq1, zq2, zq3]
  refine wpAnyIn_take (i := 25) (oi := _) (v := undef) rfl rfl (by kernel_rfl) (by kernel_rfl) (by kernel_rfl) (fun _ _ _ h => h) ⟨Or.inr ⟨by kernel_rfl, rfl⟩, fun _ => rfl⟩ ?_
  try simp only [Act.put, zq1, zq2, zq3]
  refine wpAnyIn_take (i := 26) (oi := _) (v := undef) rfl rfl (by kernel_rfl) (by kernel_rfl) (by kernel_rfl) (fun _ _ _ h => h) ⟨Or.inr ⟨by kernel_rfl, rfl⟩, fun _ => rfl⟩ ?_
  try simp only [Act.put, zq1, zq2, zq3]
  refine wpAnyIn_take (i := 27) (oi := _) (v := undef) rfl rfl (by kernel_rfl) (by kernel_rfl) (by kernel_rfl) (fun _ _ _ h => h) ⟨Or.inr ⟨by kernel_rfl, rfl⟩, fun _ => rfl⟩ ?_
  try simp only [Act.put, zq1, zq2, zq3]
  refine wpAnyIn_ready (rs := [28]) (by kernel_rfl) (by simp) ?_
  refine AllReadyIn.cons (o := _) rfl (fun K hK => ?_) AllReadyIn.nil
  try simp only [zq4, zq5, zq6]
  rw [if_neg (by rw [show Region.wanted _ _ = false by kernel_rfl]; exact Bool.false_ne_true)]
  refine ⟨fun _ _ => trivial, hK _ _ ?_⟩
  clear hK K
  try simp only [Act.put, zq1, zq2, zq3]
  refine wpAnyIn_take (i := 29) (oi := _) (v := undef) rfl rfl (by kernel_rfl) (by kernel_rfl) (by kernel_rfl) (fun _ _ _ h => h) ⟨Or.inr ⟨by kernel_rfl, rfl⟩, fun _ => rfl⟩ ?_
  try simp only [Act.put, zq1, zq2, zq3]
  refine' wpAnyIn_take (i := 30) rfl rfl (by kernel_rfl) (by kernel_rfl) (by kernel_rfl) (fun _ _ _ h => h) ⟨Or.inl ⟨?_, ?_⟩, fun _ => rfl⟩ ?_
  rotate_left
  all_goals (try simp only [zq4, zq5, zq6])
  ·first | kernel_rfl | rfl
  ·intro W; go_simp; (try rw [if_pos hK0]); (try with_reducible rfl)
  try simp only [Act.put, zq1, zq2, zq3]
  refine wpAnyIn_done (by kernel_rfl) ?_ _
  gi_wp2
  refine bodyPost_ret (results_none rfl _ _ _) rfl ?_
  exact ⟨⟨_, rfl⟩, .inr ⟨_, ⟨_, by rw [HTL2.out]; rfl⟩, HX3.out⟩⟩
 have J3 := zH hJ3
 clear hJ3 J1 hgx
 have hk4 : KpV (fun k => k = lp ∨ k = bw) _ _ := hk3
 have HK2 := zH (HK2.out.trans hk4)
 have HKP := zH (HKP.out.trans hk4)
 have q0 := hk4.cellP q0 (HNG.out g hg)
 have q1 := hk4.cellP q1 (HNG.out g hg)
 have q2 := hk4.cellP q2 (HNG.out g hg)
 have q3 := hk4.cellP q3 (HNG.out gA gA1)
 have q4 := hk4.cellP q4 (HNG.out gZ gZ1)
 have hci := HKP.out.cellP BI.out.cell (by have := HNE.out; have := HSZ.out; have := HLT.out; show ¬ (bi = lp ∨ bi = bw); omega)
 clear hk3 hk4
 gi_wp2_with fail
 try simp only [Act.put, zq1, zq2, zq3]
 refine' wpAnyIn_take (i := 4) rfl rfl (by kernel_rfl) (by kernel_rfl) (by kernel_rfl) (fun _ _ _ h => h) ⟨Or.inl ⟨?_, ?_⟩, fun _ => rfl⟩ ?_
 rotate_left
 all_goals (try simp only [zq4, zq5, zq6])
 ·first | kernel_rfl | rfl
 ·intro W; go_simp; (try rw [if_pos hK0]); (try with_reducible rfl)
 try simp only [Act.put, zq1, zq2, zq3]
 refine' wpAnyIn_take (i := 5) rfl rfl (by kernel_rfl) (by kernel_rfl) (by kernel_rfl) (fun _ _ _ h => h) ⟨Or.inl ⟨?_, ?_⟩, fun _ => rfl⟩ ?_
 rotate_left
 all_goals (try simp only [zq4, zq5, zq6])
 ·first | kernel_rfl | rfl
 ·intro W; go_simp; (try rw [if_pos hK0]); (try with_reducible rfl)
 try simp only [Act.put, zq1, zq2, zq3]
 refine' wpAnyIn_take (i := 6) rfl rfl (by kernel_rfl) (by kernel_rfl) (by kernel_rfl) (fun _ _ _ h => h) ⟨Or.inl ⟨?_, ?_⟩, fun _ => rfl⟩ ?_
 rotate_left
 all_goals (try simp only [zq4, zq5, zq6])
 ·first | kernel_rfl | rfl
 ·intro W; go_simp; (try rw [if_pos hK0]); (try with_reducible rfl)
 try simp only [Act.put, zq1, zq2, zq3]
 refine' wpAnyIn_take (i := 7) rfl rfl (by kernel_rfl) (by kernel_rfl) (by kernel_rfl) (fun _ _ _ h => h) ⟨Or.inl ⟨?_, ?_⟩, fun _ => rfl⟩ ?_
 rotate_left
 all_goals (try simp only [zq4, zq5, zq6])
 ·first | kernel_rfl | rfl
 ·intro W; go_simp; (try rw [if_pos hK0]); (try with_reducible rfl)
 try simp only [Act.put, zq1, zq2, zq3]
 refine' wpAnyIn_take (i := 8) rfl rfl (by kernel_rfl) (by kernel_rfl) (by kernel_rfl) (fun _ _ _ h => h) ⟨Or.inl ⟨?_, ?_⟩, fun _ => rfl⟩ ?_
 rotate_left
 all_goals (try simp only [zq4, zq5, zq6])
 ·first | kernel_rfl | rfl
 ·intro W; go_simp; (try rw [if_pos hK0]); (try with_reducible rfl)
 try simp only [Act.put, zq1, zq2, zq3]
 refine wpAnyIn_ready (rs := [9]) (by kernel_rfl) (by simp) ?_
 refine AllReadyIn.cons (o := _) rfl (fun K hK => ?_) (AllReadyIn.nil)
 try simp only [zq4, zq5, zq6]
 go_simp
 refine hK _ _ ?_
 clear hK K
 try simp only [Act.put, zq1, zq2, zq3]
 refine' wpAnyIn_take (i := 10) rfl rfl (by kernel_rfl) (by kernel_rfl) (by kernel_rfl) (fun _ _ _ h => h) ⟨Or.inl ⟨?_, ?_⟩, fun _ => rfl⟩ ?_
 rotate_left
 all_goals (try simp only [zq4, zq5, zq6])
 ·first | kernel_rfl | rfl
 ·intro W; go_simp; (try rw [if_pos hK0]); (try with_reducible rfl)
 try simp only [Act.put, zq1, zq2, zq3]
 refine wpAnyIn_ready (rs := [11]) (by kernel_rfl) (by simp) ?_
 refine AllReadyIn.cons (o := _) rfl (fun K hK => ?_) (AllReadyIn.nil)
 try simp only [zq4, zq5, zq6]
 go_simp
 refine hK _ _ ?_
 clear hK K
 try simp only [Act.put, zq1, zq2, zq3]
 refine' wpAnyIn_take (i := 12) rfl rfl (by kernel_rfl) (by kernel_rfl) (by kernel_rfl) (fun _ _ _ h => h) ⟨Or.inl ⟨?_, ?_⟩, fun _ => rfl⟩ ?_
 rotate_left
 all_goals (try simp only [zq4, zq5, zq6])
 ·first | kernel_rfl | rfl
 ·intro W; go_simp; (try rw [if_pos hK0]); (try with_reducible rfl)
 try simp only [Act.put, zq1, zq2, zq3]
 obtain ⟨fn, tmps, assign, body, hy, hR⟩ := HY.out _ t2 W3 J3.out
 simp only [encBp] at hy
 have HRR := zH hR
 clear hR
 refine wpAnyIn_ready (rs := [13]) (by kernel_rfl) (by simp) ?_
 refine AllReadyIn.cons (o := _) rfl (fun K hK => ?_) (AllReadyIn.nil)
 try simp only [zq4, zq5, zq6]
 go_simp
 gi_wp2_with fail
 refine HRR.out.mono ?_
 rintro e W3 (⟨rfl, hgx, hJ3, hk3⟩ | ⟨rfl, hx3⟩)
 rotate_left
 ·have HX3 := zH hx3
  clear hx3
  gi_wp2_with fail
  try simp only [Act.put, zq1, zq2, zq3]
  refine' wpAnyIn_take (i := 14) rfl rfl (by kernel_rfl) (by kernel_rfl) (by kernel_rfl) (fun _ _ _ h => h) ⟨Or.inl ⟨?_, ?_⟩, fun _ => rfl⟩ ?_
  rotate_left
  all_goals (try simp only [zq4, zq5, zq6])
  ·first | kernel_rfl | rfl
  ·intro W; go_simp; (try rw [if_pos hK0]); (try with_reducible rfl)
  try simp only [Act.put, zq1, zq2, zq3]
  refine' wpAnyIn_take (i := 15) rfl rfl (by kernel_rfl) (by kernel_rfl) (by kernel_rfl) (fun _ _ _ h => h) ⟨Or.inl ⟨?_, ?_⟩, fun _ => rfl⟩ ?_
  rotate_left
  all_goals (try simp only [zq4, zq5, zq6])
  ·first | kernel_rfl | rfl
  ·intro W; go_simp; (try rw [if_pos hK0]); (try with_reducible rfl)
  try simp only [Act.put, zq1, zq2, zq3]
  refine' wpAnyIn_take (i := 16) rfl rfl (by kernel_rfl) (by kernel_rfl) (by kernel_rfl) (fun _ _ _ h => h) ⟨Or.inl ⟨?_, ?_⟩, fun _ => rfl⟩ ?_
  rotate_left
  all_goals (try simp only [zq4, zq5, zq6])
  ·first | kernel_rfl | rfl
  ·intro W; go_simp; (try rw [if_pos hK0]); (try with_reducible rfl)
  try simp only [Act.put, zq1, zq2, zq3]
  refine wpAnyIn_take (i := 17) (oi := _) (v := undef) rfl rfl (by kernel_rfl) (by kernel_rfl) (by kernel_rfl) (fun _ _ _ h => h) ⟨Or.inr ⟨by kernel_rfl, rfl⟩, fun _ => rfl⟩ ?_
  try simp only [Act.put, zq1, zq2, zq3]
  refine wpAnyIn_take (i := 18) (oi := _) (v := undef) rfl rfl (by kernel_rfl) (by kernel_rfl) (by kernel_rfl) (fun _ _ _ h => h) ⟨Or.inr ⟨by kernel_rfl, rfl⟩, fun _ => rfl⟩ ?_
  try simp only [Act.put, zq1, zq2, zq3]
  refine wpAnyIn_take (i := 19) (oi := _) (v := undef) rfl rfl (by kernel_rfl) (by kernel_rfl) (by kernel_rfl) (fun _ _ _ h => h) ⟨Or.inr ⟨by kernel_rfl, rfl⟩, fun _ => rfl⟩ ?_
  try simp only [Act.put, zq1, zq2, zq3]
  refine wpAnyIn_take (i := 20) (oi := _) (v := undef) rfl rfl (by kernel_rfl) (by kernel_rfl) (by kernel_rfl) (fun _ _ _ h => h) ⟨Or.inr ⟨by kernel_rfl, rfl⟩, fun _ => rfl⟩ ?_
  try simp only [Act.put, zq1, zq2, zq3]
  refine wpAnyIn_take (i := 21) (oi := _) (v := undef) rfl rfl (by kernel_rfl) (by kernel_rfl) (by kernel_rfl) (fun _ _ _ h => h) ⟨Or.inr ⟨by kernel_rfl, rfl⟩, fun _ => rfl⟩ ?_
  try simp only [Act.put, zq1, zq2, zq3]
  refine wpAnyIn_take (i := 22) (oi := _) (v := undef) rfl rfl (by kernel_rfl) (by kernel_rfl) (by kernel_rfl) (fun _ _ _ h => h) ⟨Or.inr ⟨by kernel_rfl, rfl⟩, fun _ => rfl⟩ ?_
  try simp only [Act.put, zq1, zq2, zq3]
  refine wpAnyIn_take (i := 23) (oi := _) (v := undef) rfl rfl (by kernel_rfl) (by kernel_rfl) (by kernel_rfl) (fun _ _ _ h => h) ⟨Or.inr ⟨by kernel_rfl, rfl⟩, fun _ => rfl⟩ ?_
  try simp only [Act.put, zq1, zq2, zq3]
  refine wpAnyIn_ready (rs := [24]) (by kernel_rfl) (by simp) ?_
  refine AllReadyIn.cons (o := _) rfl (fun K hK => ?_) AllReadyIn.nil
  try simp only [zq4, zq5, zq6]
  rw [if_neg (by rw [show Region.wanted _ _ = false by kernel_rfl]; exact Bool.false_ne_true)]
  refine ⟨fun _ _ => trivial, hK _ _ ?_⟩
  clear hK K
  try simp only [Act.put, zq1, zq2, zq3]
  refine wpAnyIn_take (i := 25) (oi := _) (v := undef) rfl rfl (by kernel_rfl) (by kernel_rfl) (by kernel_rfl) (fun _ _ _ h => h) ⟨Or.inr ⟨by kernel_rfl, rfl⟩, fun _ => rfl⟩ ?_
  try simp only [Act.put, zq1, zq2, zq3]
  refine wpAnyIn_take (i := 26) (oi := _) (v := undef) rfl rfl (by kernel_rfl) (by kernel_rfl) (by kernel_rfl) (fun _ _ _ h => h) ⟨Or.inr ⟨by kernel_rfl, rfl⟩, fun _ => rfl⟩ ?_
  try simp only [Act.put, zq1, zq2, zq3]
  refine wpAnyIn_take (i := 27) (oi := _) (v := undef) rfl rfl (by kernel_rfl) (by kernel_rfl) (by kernel_rfl) (fun _ _ _ h => h) ⟨Or.inr ⟨by kernel_rfl, rfl⟩, fun _ => rfl⟩ ?_
  try simp only [Act.put, zq1, zq2, zq3]
  refine wpAnyIn_ready (rs := [28]) (by kernel_rfl) (by simp) ?_
  refine AllReadyIn.cons (o := _) rfl (fun K hK => ?_) AllReadyIn.nil
  try simp only [zq4, zq5, zq6]
  rw [if_neg (by rw [show Region.wanted _ _ = false by kernel_rfl]; exact Bool.false_ne_true)]
  refine ⟨fun _ _ => trivial, hK _ _ ?_⟩
  clear hK K
  try simp only [Act.put, zq1, zq2, zq3]
  refine wpAnyIn_take (i := 29) (oi := _) (v := undef) rfl rfl (by kernel_rfl) (by kernel_rfl) (by kernel_rfl) (fun _ _ _ h => h) ⟨Or.inr ⟨by kernel_rfl, rfl⟩, fun _ => rfl⟩ ?_
  try simp only [Act.put, zq1, zq2, zq3]
  refine' wpAnyIn_take (i := 30) rfl rfl (by kernel_rfl) (by kernel_rfl) (by kernel_rfl) (fun _ _ _ h => h) ⟨Or.inl ⟨?_, ?_⟩, fun _ => rfl⟩ ?_
  rotate_left
  all_goals (try simp only [zq4, zq5, zq6])
  ·first | kernel_rfl | rfl
  ·intro W; go_simp; (try rw [if_pos hK0]); (try with_reducible rfl)
  try simp only [Act.put, zq1, zq2, zq3]
  refine wpAnyIn_done (by kernel_rfl) ?_ _
  gi_wp2
  refine bodyPost_ret (results_none rfl _ _ _) rfl ?_
  exact ⟨⟨_, rfl⟩, .inr ⟨_, ⟨_, by rw [HTL2.out]; rfl⟩, HX3.out⟩⟩
 have J3 := zH hJ3
 clear hJ3 b2 d2
 have hk4 : KpV (fun k => k = lp ∨ k = bw) _ _ := hk3
 have HK2 := zH (HK2.out.trans hk4)
 have HKP := zH (HKP.out.trans hk4)
 have q0 := hk4.cellP q0 (HNG.out g hg)
 have q1 := hk4.cellP q1 (HNG.out g hg)
 have q2 := hk4.cellP q2 (HNG.out g hg)
 have q3 := hk4.cellP q3 (HNG.out gA gA1)
 have q4 := hk4.cellP q4 (HNG.out gZ gZ1)
 have hci := HKP.out.cellP BI.out.cell (by have := HNE.out; have := HSZ.out; have := HLT.out; show ¬ (bi = lp ∨ bi = bw); omega)
 clear hk3 hk4
 subst hgx
 gi_wp2_with fail
 try simp only [Act.put, zq1, zq2, zq3]
 refine' wpAnyIn_take (i := 14) rfl rfl (by kernel_rfl) (by kernel_rfl) (by kernel_rfl) (fun _ _ _ h => h) ⟨Or.inl ⟨?_, ?_⟩, fun _ => rfl⟩ ?_
 rotate_left
 all_goals (try simp only [zq4, zq5, zq6])
 ·first | kernel_rfl | rfl
 ·intro W; go_simp; (try rw [if_pos hK0]); (try with_reducible rfl)
 try simp only [Act.put, zq1, zq2, zq3]
 refine' wpAnyIn_take (i := 15) rfl rfl (by kernel_rfl) (by kernel_rfl) (by kernel_rfl) (fun _ _ _ h => h) ⟨Or.inl ⟨?_, ?_⟩, fun _ => rfl⟩ ?_
 rotate_left
 all_goals (try simp only [zq4, zq5, zq6])
 ·first | kernel_rfl | rfl
 ·intro W; go_simp; (try rw [if_pos hK0]); (try with_reducible rfl)
 try simp only [Act.put, zq1, zq2, zq3]
 refine' wpAnyIn_take (i := 16) rfl rfl (by kernel_rfl) (by kernel_rfl) (by kernel_rfl) (fun _ _ _ h => h) ⟨Or.inl ⟨?_, ?_⟩, fun _ => rfl⟩ ?_
 rotate_left
 all_goals (try simp only [zq4, zq5, zq6])
 ·first | kernel_rfl | rfl
 ·intro W; go_simp; (try rw [if_pos hK0]); (try with_reducible rfl)
 try simp only [Act.put, zq1, zq2, zq3]
 refine' wpAnyIn_take (i := 17) rfl rfl (by kernel_rfl) (by kernel_rfl) (by kernel_rfl) (fun _ _ _ h => h) ⟨Or.inl ⟨?_, ?_⟩, fun _ => rfl⟩ ?_
 rotate_left
 all_goals (try simp only [zq4, zq5, zq6])
 ·first | kernel_rfl | rfl
 ·intro W; go_simp; (try rw [if_pos hK0]); (try with_reducible rfl)
 try simp only [Act.put, zq1, zq2, zq3]
 refine' wpAnyIn_take (i := 18) rfl rfl (by kernel_rfl) (by kernel_rfl) (by kernel_rfl) (fun _ _ _ h => h) ⟨Or.inl ⟨?_, ?_⟩, fun _ => rfl⟩ ?_
 rotate_left
 all_goals (try simp only [zq4, zq5, zq6])
 ·first | kernel_rfl | rfl
 ·intro W; go_simp; (try rw [if_pos hK0]); (try with_reducible rfl)
 try simp only [Act.put, zq1, zq2, zq3]
 refine' wpAnyIn_take (i := 19) rfl rfl (by kernel_rfl) (by kernel_rfl) (by kernel_rfl) (fun _ _ _ h => h) ⟨Or.inl ⟨?_, ?_⟩, fun _ => rfl⟩ ?_
 rotate_left
 all_goals (try simp only [zq4, zq5, zq6])
 ·first | kernel_rfl | rfl
 ·intro W; go_simp; (try rw [if_pos hK0]); (try with_reducible rfl)
 try simp only [Act.put, zq1, zq2, zq3]
 apply cut_prop
 case f =>
  intro fin
  refine wpAnyIn_ready (rs := [20, 23]) (by kernel_rfl) (by simp) ?_
  refine AllReadyIn.cons (o := _) rfl (fun K hK => ?_) (AllReadyIn.cons (o := _) rfl (fun K hK => ?_) (AllReadyIn.nil))
  ·skip
   try simp only [zq4, zq5, zq6]
   go_simp
   refine hK _ _ ?_
   clear hK K
   try simp only [Act.put, zq1, zq2, zq3]
   refine' wpAnyIn_take (i := 21) rfl rfl (by kernel_rfl) (by kernel_rfl) (by kernel_rfl) (fun _ _ _ h => h) ⟨Or.inl ⟨?_, ?_⟩, fun _ => rfl⟩ ?_
   rotate_left
   all_goals (try simp only [zq4, zq5, zq6])
   ·first | kernel_rfl | rfl
   ·intro W; go_simp; (try rw [if_pos hK0]); (try with_reducible rfl)
   try simp only [Act.put, zq1, zq2, zq3]
   refine wpAnyIn_ready (rs := [22, 23]) (by kernel_rfl) (by simp) ?_
   refine AllReadyIn.cons (o := _) rfl (fun K hK => ?_) (AllReadyIn.cons (o := _) rfl (fun K hK => ?_) (AllReadyIn.nil))
   ·skip
    try simp only [zq4, zq5, zq6]
    go_simp
    refine hK _ _ ?_
    clear hK K
    try simp only [Act.put, zq1, zq2, zq3]
    refine wpAnyIn_ready (rs := [23]) (by kernel_rfl) (by simp) ?_
    refine AllReadyIn.cons (o := _) rfl (fun K hK => ?_) (AllReadyIn.nil)
    try simp only [zq4, zq5, zq6]
    go_simp
    refine hK _ _ ?_
    clear hK K
    try simp only [Act.put, zq1, zq2, zq3]
    refine wpAnyIn_ready (rs := [24]) (by kernel_rfl) (by simp) ?_
    refine AllReadyIn.cons (o := _) rfl (fun K hK => ?_) (AllReadyIn.nil)
    try simp only [zq4, zq5, zq6]
    go_simp
    refine ⟨trivial, ?_⟩
    refine (callsIn_wide.2 (HLOW.out _)).mono ?_
    rintro e w' ⟨rfl, rfl⟩
    rw [HLW.out]
    gi_wp2_with fail
    try simp only [Act.put, zq1, zq2, zq3]
    refine' wpAnyIn_take (i := 25) rfl rfl (by kernel_rfl) (by kernel_rfl) (by kernel_rfl) (fun _ _ _ h => h) ⟨Or.inl ⟨?_, ?_⟩, fun _ => rfl⟩ ?_
    rotate_left
    all_goals (try simp only [zq4, zq5, zq6])
    ·first | kernel_rfl | rfl
    ·intro W; go_simp; (try rw [if_pos hK0]); (try with_reducible rfl)
    try simp only [Act.put, zq1, zq2, zq3]
    exact fin.out
   ·skip
    try simp only [zq4, zq5, zq6]
    go_simp
    refine hK _ _ ?_
    clear hK K
    try simp only [Act.put, zq1, zq2, zq3]
    refine wpAnyIn_ready (rs := [22, 24]) (by kernel_rfl) (by simp) ?_
    refine AllReadyIn.cons (o := _) rfl (fun K hK => ?_) (AllReadyIn.cons (o := _) rfl (fun K hK => ?_) (AllReadyIn.nil))
    ·skip
     try simp only [zq4, zq5, zq6]
     go_simp
     refine hK _ _ ?_
     clear hK K
     try simp only [Act.put, zq1, zq2, zq3]
     refine wpAnyIn_ready (rs := [24]) (by kernel_rfl) (by simp) ?_
     refine AllReadyIn.cons (o := _) rfl (fun K hK => ?_) (AllReadyIn.nil)
     try simp only [zq4, zq5, zq6]
     go_simp
     refine ⟨trivial, ?_⟩
     refine (callsIn_wide.2 (HLOW.out _)).mono ?_
     rintro e w' ⟨rfl, rfl⟩
     rw [HLW.out]
     gi_wp2_with fail
     try simp only [Act.put, zq1, zq2, zq3]
     refine' wpAnyIn_take (i := 25) rfl rfl (by kernel_rfl) (by kernel_rfl) (by kernel_rfl) (fun _ _ _ h => h) ⟨Or.inl ⟨?_, ?_⟩, fun _ => rfl⟩ ?_
     rotate_left
     all_goals (try simp only [zq4, zq5, zq6])
     ·first | kernel_rfl | rfl
     ·intro W; go_simp; (try rw [if_pos hK0]); (try with_reducible rfl)
     try simp only [Act.put, zq1, zq2, zq3]
     exact fin.out
    ·skip
     try simp only [zq4, zq5, zq6]
     go_simp
     refine ⟨trivial, ?_⟩
     refine (callsIn_wide.2 (HLOW.out _)).mono ?_
     rintro e w' ⟨rfl, rfl⟩
     rw [HLW.out]
     gi_wp2_with fail
     try simp only [Act.put, zq1, zq2, zq3]
     refine' wpAnyIn_take (i := 25) rfl rfl (by kernel_rfl) (by kernel_rfl) (by kernel_rfl) (fun _ _ _ h => h) ⟨Or.inl ⟨?_, ?_⟩, fun _ => rfl⟩ ?_
     rotate_left
     all_goals (try simp only [zq4, zq5, zq6])
     ·first | kernel_rfl | rfl
     ·intro W; go_simp; (try rw [if_pos hK0]); (try with_reducible rfl)
     try simp only [Act.put, zq1, zq2, zq3]
     refine wpAnyIn_ready (rs := [22]) (by kernel_rfl) (by simp) ?_
     refine AllReadyIn.cons (o := _) rfl (fun K hK => ?_) (AllReadyIn.nil)
     try simp only [zq4, zq5, zq6]
     go_simp
     refine hK _ _ ?_
     clear hK K
     try simp only [Act.put, zq1, zq2, zq3]
     exact fin.out
  ·skip
   try simp only [zq4, zq5, zq6]
   go_simp
   refine hK _ _ ?_
   clear hK K
   try simp only [Act.put, zq1, zq2, zq3]
   refine wpAnyIn_ready (rs := [20, 24]) (by kernel_rfl) (by simp) ?_
   refine AllReadyIn.cons (o := _) rfl (fun K hK => ?_) (AllReadyIn.cons (o := _) rfl (fun K hK => ?_) (AllReadyIn.nil))
   ·skip
    try simp only [zq4, zq5, zq6]
    go_simp
    refine hK _ _ ?_
    clear hK K
    try simp only [Act.put, zq1, zq2, zq3]
    refine' wpAnyIn_take (i := 21) rfl rfl (by kernel_rfl) (by kernel_rfl) (by kernel_rfl) (fun _ _ _ h => h) ⟨Or.inl ⟨?_, ?_⟩, fun _ => rfl⟩ ?_
    rotate_left
    all_goals (try simp only [zq4, zq5, zq6])
    ·first | kernel_rfl | rfl
    ·intro W; go_simp; (try rw [if_pos hK0]); (try with_reducible rfl)
    try simp only [Act.put, zq1, zq2, zq3]
    refine wpAnyIn_ready (rs := [22, 24]) (by kernel_rfl) (by simp) ?_
    refine AllReadyIn.cons (o := _) rfl (fun K hK => ?_) (AllReadyIn.cons (o := _) rfl (fun K hK => ?_) (AllReadyIn.nil))
    ·skip
     try simp only [zq4, zq5, zq6]
     go_simp
     refine hK _ _ ?_
     clear hK K
     try simp only [Act.put, zq1, zq2, zq3]
     refine wpAnyIn_ready (rs := [24]) (by kernel_rfl) (by simp) ?_
     refine AllReadyIn.cons (o := _) rfl (fun K hK => ?_) (AllReadyIn.nil)
     try simp only [zq4, zq5, zq6]
     go_simp
     refine ⟨trivial, ?_⟩
     refine (callsIn_wide.2 (HLOW.out _)).mono ?_
     rintro e w' ⟨rfl, rfl⟩
     rw [HLW.out]
     gi_wp2_with fail
     try simp only [Act.put, zq1, zq2, zq3]
     refine' wpAnyIn_take (i := 25) rfl rfl (by kernel_rfl) (by kernel_rfl) (by kernel_rfl) (fun _ _ _ h => h) ⟨Or.inl ⟨?_, ?_⟩, fun _ => rfl⟩ ?_
     rotate_left
     all_goals (try simp only [zq4, zq5, zq6])
     ·first | kernel_rfl | rfl
     ·intro W; go_simp; (try rw [if_pos hK0]); (try with_reducible rfl)
     try simp only [Act.put, zq1, zq2, zq3]
     exact fin.out
    ·skip
     try simp only [zq4, zq5, zq6]
     go_simp
     refine ⟨trivial, ?_⟩
     refine (callsIn_wide.2 (HLOW.out _)).mono ?_
     rintro e w' ⟨rfl, rfl⟩
     rw [HLW.out]
     gi_wp2_with fail
     try simp only [Act.put, zq1, zq2, zq3]
     refine' wpAnyIn_take (i := 25) rfl rfl (by kernel_rfl) (by kernel_rfl) (by kernel_rfl) (fun _ _ _ h => h) ⟨Or.inl ⟨?_, ?_⟩, fun _ => rfl⟩ ?_
     rotate_left
     all_goals (try simp only [zq4, zq5, zq6])
     ·first | kernel_rfl | rfl
     ·intro W; go_simp; (try rw [if_pos hK0]); (try with_reducible rfl)
     try simp only [Act.put, zq1, zq2, zq3]
     refine wpAnyIn_ready (rs := [22]) (by kernel_rfl) (by simp) ?_
     refine AllReadyIn.cons (o := _) rfl (fun K hK => ?_) (AllReadyIn.nil)
     try simp only [zq4, zq5, zq6]
     go_simp
     refine hK _ _ ?_
     clear hK K
     try simp only [Act.put, zq1, zq2, zq3]
     exact fin.out
   ·skip
    try simp only [zq4, zq5, zq6]
    go_simp
    refine ⟨trivial, ?_⟩
    refine (callsIn_wide.2 (HLOW.out _)).mono ?_
    rintro e w' ⟨rfl, rfl⟩
    rw [HLW.out]
    gi_wp2_with fail
    try simp only [Act.put, zq1, zq2, zq3]
    refine' wpAnyIn_take (i := 25) rfl rfl (by kernel_rfl) (by kernel_rfl) (by kernel_rfl) (fun _ _ _ h => h) ⟨Or.inl ⟨?_, ?_⟩, fun _ => rfl⟩ ?_
    rotate_left
    all_goals (try simp only [zq4, zq5, zq6])
    ·first | kernel_rfl | rfl
    ·intro W; go_simp; (try rw [if_pos hK0]); (try with_reducible rfl)
    try simp only [Act.put, zq1, zq2, zq3]
    refine wpAnyIn_ready (rs := [20]) (by kernel_rfl) (by simp) ?_
    refine AllReadyIn.cons (o := _) rfl (fun K hK => ?_) (AllReadyIn.nil)
    try simp only [zq4, zq5, zq6]
    go_simp
    refine hK _ _ ?_
    clear hK K
    try simp only [Act.put, zq1, zq2, zq3]
    refine' wpAnyIn_take (i := 21) rfl rfl (by kernel_rfl) (by kernel_rfl) (by kernel_rfl) (fun _ _ _ h => h) ⟨Or.inl ⟨?_, ?_⟩, fun _ => rfl⟩ ?_
    rotate_left
    all_goals (try simp only [zq4, zq5, zq6])
    ·first | kernel_rfl | rfl
    ·intro W; go_simp; (try rw [if_pos hK0]); (try with_reducible rfl)
    try simp only [Act.put, zq1, zq2, zq3]
    refine wpAnyIn_ready (rs := [22]) (by kernel_rfl) (by simp) ?_
    refine AllReadyIn.cons (o := _) rfl (fun K hK => ?_) (AllReadyIn.nil)
    try simp only [zq4, zq5, zq6]
    go_simp
    refine hK _ _ ?_
    clear hK K
    try simp only [Act.put, zq1, zq2, zq3]
    exact fin.out
 case x =>
  skip
  refine' wpAnyIn_take (i := 26) rfl rfl (by kernel_rfl) (by kernel_rfl) (by kernel_rfl) (fun _ _ _ h => h) ⟨Or.inl ⟨?_, ?_⟩, fun _ => rfl⟩ ?_
  rotate_left
  all_goals (try simp only [zq4, zq5, zq6])
  ·first | kernel_rfl | rfl
  ·intro W; go_simp; (try rw [if_pos hK0]); (try with_reducible rfl)
  try simp only [Act.put, zq1, zq2, zq3]
  refine' wpAnyIn_take (i := 27) rfl rfl (by kernel_rfl) (by kernel_rfl) (by kernel_rfl) (fun _ _ _ h => h) ⟨Or.inl ⟨?_, ?_⟩, fun _ => rfl⟩ ?_
  rotate_left
  all_goals (try simp only [zq4, zq5, zq6])
  ·first | kernel_rfl | rfl
  ·intro W; go_simp; (try rw [if_pos hK0]); (try with_reducible rfl)
  try simp only [Act.put, zq1, zq2, zq3]
  obtain ⟨fn, tmps, assign, body, hy, hR⟩ := HY.out _ t3 W3 J3.out
  simp only [encBp] at hy
  have HRR := zH hR
  clear hR
  refine wpAnyIn_ready (rs := [28]) (by kernel_rfl) (by simp) ?_
  refine AllReadyIn.cons (o := _) rfl (fun K hK => ?_) (AllReadyIn.nil)
  try simp only [zq4, zq5, zq6]
  go_simp
  gi_wp2_with fail
  refine HRR.out.mono ?_
  rintro e W3 (⟨rfl, hgx, hJ3, hk3⟩ | ⟨rfl, hx3⟩)
  rotate_left
  ·have HX3 := zH hx3
   clear hx3
   gi_wp2_with fail
   try simp only [Act.put, zq1, zq2, zq3]
   refine' wpAnyIn_take (i := 29) rfl rfl (by kernel_rfl) (by kernel_rfl) (by kernel_rfl) (fun _ _ _ h => h) ⟨Or.inl ⟨?_, ?_⟩, fun _ => rfl⟩ ?_
   rotate_left
   all_goals (try simp only [zq4, zq5, zq6])
   ·first | kernel_rfl | rfl
   ·intro W; go_simp; (try rw [if_pos hK0]); (try with_reducible rfl)
   try simp only [Act.put, zq1, zq2, zq3]
   refine' wpAnyIn_take (i := 30) rfl rfl (by kernel_rfl) (by kernel_rfl) (by kernel_rfl) (fun _ _ _ h => h) ⟨Or.inl ⟨?_, ?_⟩, fun _ => rfl⟩ ?_
   rotate_left
   all_goals (try simp only [zq4, zq5, zq6])
   ·first | kernel_rfl | rfl
   ·intro W; go_simp; (try rw [if_pos hK0]); (try with_reducible rfl)
   try simp only [Act.put, zq1, zq2, zq3]
   refine wpAnyIn_done (by kernel_rfl) ?_ _
   gi_wp2
   refine bodyPost_ret (results_none rfl _ _ _) rfl ?_
   exact ⟨⟨_, rfl⟩, .inr ⟨_, ⟨_, by rw [HTL2.out]; rfl⟩, HX3.out⟩⟩
  have J3 := zH hJ3
  clear hJ3 b3 d3 hand hxo
  have hk4 : KpV (fun k => k = lp ∨ k = bw) _ _ := hk3
  have HK2 := zH (HK2.out.trans hk4)
  have HKP := zH (HKP.out.trans hk4)
  have q0 := hk4.cellP q0 (HNG.out g hg)
  have q1 := hk4.cellP q1 (HNG.out g hg)
  have q2 := hk4.cellP q2 (HNG.out g hg)
  have q3 := hk4.cellP q3 (HNG.out gA gA1)
  have q4 := hk4.cellP q4 (HNG.out gZ gZ1)
  have hci := HKP.out.cellP BI.out.cell (by have := HNE.out; have := HSZ.out; have := HLT.out; show ¬ (bi = lp ∨ bi = bw); omega)
  clear hk3 hk4
  subst hgx
  gi_wp2_with fail
  try simp only [Act.put, zq1, zq2, zq3]
  refine' wpAnyIn_take (i := 29) rfl rfl (by kernel_rfl) (by kernel_rfl) (by kernel_rfl) (fun _ _ _ h => h) ⟨Or.inl ⟨?_, ?_⟩, fun _ => rfl⟩ ?_
  rotate_left
  all_goals (try simp only [zq4, zq5, zq6])
  ·first | kernel_rfl | rfl
  ·intro W; go_simp; (try rw [if_pos hK0]); (try with_reducible rfl)
  try simp only [Act.put, zq1, zq2, zq3]
  refine' wpAnyIn_take (i := 30) rfl rfl (by kernel_rfl) (by kernel_rfl) (by kernel_rfl) (fun _ _ _ h => h) ⟨Or.inl ⟨?_, ?_⟩, fun _ => rfl⟩ ?_
  rotate_left
  all_goals (try simp only [zq4, zq5, zq6])
  ·first | kernel_rfl | rfl
  ·intro W; go_simp; (try rw [if_pos hK0]); (try with_reducible rfl)
  try simp only [Act.put, zq1, zq2, zq3]
  refine wpAnyIn_done (by kernel_rfl) ?_ _
  gi_wp2_with fail
  clear h
  have hch := HKP.out.cellP BH.out.cell (by have := HNE.out; have := HSZ.out; have := HLT.out; show ¬ (bh = lp ∨ bh = bw); omega)
  have OA := HO.out.1.kp HK2.out HNG.out
  have OI := HO.out.2.1.kp HK2.out HNG.out
  have KW : Kinds W3 := HK.out.same (HKP.out.2 _ HK.out.lt (by have := HSZ.out; rintro (e | e) <;> omega))
  have HOA := zH (show Kinds W3.drew ∧ Reads .u8 W3.drew (some ⟨gA, 0, none⟩) K cA A ∧ Reads .u8 W3.drew (some ⟨gI, 0, none⟩) S cI I from ⟨KW.drew, OA.reads.drewN 1, OI.reads.drewN 1⟩)
  have HOI := zH OI
  have hchd : W3.drew.cell? ⟨bh, 0, none⟩ = some (.int .i64 (h : Int)) := hch
  have q0d : W3.drew.cell? ⟨g, 0, none⟩ = some (.slice (some ⟨gA, 0, none⟩) K cA) := q0
  have q1d : W3.drew.cell? ⟨g, 1, none⟩ = some (.slice (some ⟨gI, 0, none⟩) S cI) := q1
  have hcid : W3.drew.cell? ⟨bi, 0, none⟩ = some (.int .i64 (n : Int)) := hci
  clear OA OI KW q2 q3 q4
  refine wpIn_wide.2 (wp_region_held_drew (S := fun X => X.cell? ⟨bh, 0, none⟩ = some (.int .i64 (h : Int)) ∧ X.cell? ⟨g, 0, none⟩ = some (.slice (some ⟨gA, 0, none⟩) K cA) ∧ X.cell? ⟨g, 1, none⟩ = some (.slice (some ⟨gI, 0, none⟩) S cI) ∧ X.cell? ⟨bi, 0, none⟩ = some (.int .i64 (n : Int))) (by kernel_rfl) ⟨hch, q0, q1, hci⟩ (fun hHeld => ?_))
  refine' wpAnyH_take (i := 0) rfl (by kernel_rfl) (by kernel_rfl) (by kernel_rfl) (fun _ _ _ h => h) (Or.inl ⟨?_, ?_⟩) (by assumption) ?_
  rotate_left
  all_goals (try simp only [zq4, zq5, zq6])
  ·rfl
  ·intro W hSw; (try dsimp only at hSw); go_simp; (try with_reducible rfl)
  try simp only [Act.put, zq1, zq2, zq3]
  refine' wpAnyH_take (i := 1) rfl (by kernel_rfl) (by kernel_rfl) (by kernel_rfl) (fun _ _ _ h => h) (Or.inl ⟨?_, ?_⟩) (by assumption) ?_
  rotate_left
  all_goals (try simp only [zq4, zq5, zq6])
  ·rfl
  ·intro W hSw; (try dsimp only at hSw); go_simp; (try with_reducible rfl)
  try simp only [Act.put, zq1, zq2, zq3]
  refine' wpAnyH_take (i := 2) rfl (by kernel_rfl) (by kernel_rfl) (by kernel_rfl) (fun _ _ _ h => h) (Or.inl ⟨?_, ?_⟩) (by assumption) ?_
  rotate_left
  all_goals (try simp only [zq4, zq5, zq6])
  ·rfl
  ·intro W hSw; (try dsimp only at hSw); go_simp; (try with_reducible rfl)
  try simp only [Act.put, zq1, zq2, zq3]
  refine' wpAnyH_take (i := 3) rfl (by kernel_rfl) (by kernel_rfl) (by kernel_rfl) (fun _ _ _ h => h) (Or.inl ⟨?_, ?_⟩) (by assumption) ?_
  rotate_left
  all_goals (try simp only [zq4, zq5, zq6])
  ·rfl
  ·intro W hSw; (try dsimp only at hSw); go_simp; (try with_reducible rfl)
  try simp only [Act.put, zq1, zq2, zq3]
  refine' wpAnyH_take (i := 4) rfl (by kernel_rfl) (by kernel_rfl) (by kernel_rfl) (fun _ _ _ h => h) (Or.inl ⟨?_, ?_⟩) (by assumption) ?_
  rotate_left
  all_goals (try simp only [zq4, zq5, zq6])
  ·rfl
  ·intro W hSw; (try dsimp only at hSw); go_simp; (try with_reducible rfl)
  try simp only [Act.put, zq1, zq2, zq3]
  refine' wpAnyH_take (i := 5) rfl (by kernel_rfl) (by kernel_rfl) (by kernel_rfl) (fun _ _ _ h => h) (Or.inl ⟨?_, ?_⟩) (by assumption) ?_
  rotate_left
  all_goals (try simp only [zq4, zq5, zq6])
  ·rfl
  ·intro W hSw; (try dsimp only at hSw); go_simp; (try with_reducible rfl)
  try simp only [Act.put, zq1, zq2, zq3]
  refine' wpAnyH_take (i := 6) rfl (by kernel_rfl) (by kernel_rfl) (by kernel_rfl) (fun _ _ _ h => h) (Or.inl ⟨?_, ?_⟩) (by assumption) ?_
  rotate_left
  all_goals (try simp only [zq4, zq5, zq6])
  ·rfl
  ·intro W hSw; (try dsimp only at hSw); go_simp; (try with_reducible rfl)
  try simp only [Act.put, zq1, zq2, zq3]
  refine' wpAnyH_take (i := 7) rfl (by kernel_rfl) (by kernel_rfl) (by kernel_rfl) (fun _ _ _ h => h) (Or.inl ⟨?_, ?_⟩) (by assumption) ?_
  rotate_left
  all_goals (try simp only [zq4, zq5, zq6])
  ·rfl
  ·intro W hSw; (try dsimp only at hSw); go_simp; (try with_reducible rfl)
  try simp only [Act.put, zq1, zq2, zq3]
  refine wpAnyH_ready (rs := [8]) (by kernel_rfl) (by simp) ?_
  refine AllReadyH.cons (o := _) rfl (fun K hK => ?_) AllReadyH.nil
  try simp only [zq4, zq5, zq6]
  go_simp
  refine (masked_p _ HH.out _ _ _ A _ _ _ I n _ HOA.out.1 HOA.out.2.1 HOA.out.2.2 HBS.out.1 HBS.out.2.1 hK1 HK5.out.1 HK5.out.2.1 HK5.out.2.2).mono ?_
  rintro e w5 ⟨⟨gM, cM, rfl, hOM⟩, hb5⟩
  rw [HM.out] at hOM
  have HOM := zH hOM
  have HB5 := zH hb5
  have kb5 : KpV (fun _ => False) W3.drew w5 := KpV.below HB5.out
  have hS5 := And.intro (kb5.cellP hchd (fun e => e)) (And.intro (kb5.cellP q0d (fun e => e)) (And.intro (kb5.cellP q1d (fun e => e)) (kb5.cellP hcid (fun e => e))))
  clear hOM hb5
  go_wp2_with fail
  refine hK.out _ _ hS5 (fun hHeld => ?_)
  clear hK K
  try simp only [Act.put, zq1, zq2, zq3]
  refine' wpAnyH_take (i := 9) rfl (by kernel_rfl) (by kernel_rfl) (by kernel_rfl) (fun _ _ _ h => h) (Or.inl ⟨?_, ?_⟩) (by assumption) ?_
  rotate_left
  all_goals (try simp only [zq4, zq5, zq6])
  ·rfl
  ·intro W hSw; (try dsimp only at hSw); go_simp; (try with_reducible rfl)
  try simp only [Act.put, zq1, zq2, zq3]
  refine wpAnyH_done (by kernel_rfl) ?_ _
  try clear hHeld
  have bzc : w5.cell? ⟨bz, 0, none⟩ = some (.int .i64 (sn : Int)) := kb5.cellP (show W3.drew.cell? ⟨bz, 0, none⟩ = _ from HKP.out.cellP BZ.out.cell (by have := HNE.out; have := HSZ.out; have := HLT.out; show ¬ (bz = lp ∨ bz = bw); omega)) (fun e => e)
  have e2 : (K : Int) - (sn : Int) - 1 = (a : Int) := by have := HKA.out; omega
  have HKA2 := zH (show K = a + 1 + sn ∧ K ≤ 1000000 from ⟨HKA.out.2, by have := HK5.out; omega⟩)
  have HMB := zH (show Byt M from HM.out ▸ masked_byt HH.out I n HBS.out.1)
  have K5 := kb5.cellP q1d (fun e => e)
  have HQ1 := zH K5
  clear K5 hch hchd q0d q1d hcid q0 q1 hci hS5
  gi_wp2_with fail
  refine ⟨trivial, ?_⟩
  refine (callsIn_wide.2 (cut_lit (some ⟨gM, 0, none⟩) _ cM M a 1 sn _ HOM.out.reads HMB.out HKA2.out.1 HKA2.out.2)).mono ?_
  rintro e w6 ⟨⟨v2, rfl, hv2⟩, hb6⟩
  have HT6b := zH hv2
  have HB6 := zH (show Below W3.heap.size W3 w6 from (((Below.refl _ _).drew).trans HB5.out).trans (hb6.mono HB5.out.size))
  have HQ1 := zH ((KpV.below (E := fun _ => False) hb6).cellP HQ1.out (fun e => e))
  clear hv2 hb6 bzc
  obtain ⟨P0, hP0⟩ : ∃ P, M.take a = P := ⟨_, rfl⟩
  obtain ⟨P1, hP1⟩ : ∃ P, (M.drop a).take 1 = P := ⟨_, rfl⟩
  obtain ⟨P2, hP2⟩ : ∃ P, M.drop (a + 1) = P := ⟨_, rfl⟩
  have lM : M.length = K := HOM.out.cap.1.symm
  have l0 : P0.length = a := by rw [← hP0, List.length_take, lM]; have := HKA2.out; omega
  have l1 : P1.length = 1 := by rw [← hP1, List.length_take, List.length_drop, lM]; have := HKA2.out; omega
  have l2 : P2.length = sn := by rw [← hP2, List.length_drop, lM]; have := HKA2.out; omega
  rw [hP0, hP1, hP2] at HT6b
  obtain ⟨g2, c2, xa, xc, ya, yc, za, zc, rfl, hg2, hgl2, hc32, p0, p1, p2, u0, u1, u2⟩ := HT6b.out.open
  obtain ⟨g1, c1, e1⟩ := u1.succ (by intro e; rw [e] at l1; simp at l1)
  rw [l0] at u0
  rw [e1, l1] at u1
  rw [l2] at u2
  rw [l0] at p0
  rw [e1, l1] at p1
  rw [l2] at p2
  clear e1
  obtain ⟨s1, hs1⟩ : ∃ s1, P1[0]?.getD 0 = s1 := ⟨_, rfl⟩
  have p3 : w6.cell? ⟨g1, 0, none⟩ = some (.int .u8 (s1 : Int)) := by
   rw [← hs1]
   exact u1.cellAt l1.symm 0 (by omega)
  have hg1 : w5.heap.size + 1 ≤ g1 := u1.blk
  have b6 : ((s1 : Int) == 1) = t6 := by rw [← HT6.out, hP1, hs1]; exact int_beq s1 1
  have d6 : decide ((s1 : Int) = 1) = t6 := by rw [← b6]; rfl
  obtain ⟨q, hq⟩ : ∃ q, (Oc.bareL (u8s P0)).length = q := ⟨_, rfl⟩
  have b5 : ((q : Int) == 0) = t5 := by rw [← HT5.out, hP0, hq]; exact int_beq q 0
  have d5 : decide ((q : Int) = 0) = t5 := by rw [← b5]; rfl
  have hsz5 : W.heap.size ≤ w5.heap.size := Nat.le_trans HKP.out.1 HB5.out.size
  have HS5 := zH hsz5
  have HNG6 := zH (show (∀ k, w5.heap.size + 1 ≤ k → ¬ (k = lp ∨ k = bw)) from fun k hk => by have := HSZ.out; omega)
  have HK6 := zH (KpV.refl (fun k => k = lp ∨ k = bw) w6)
  have HKP := zH (HKP.out.trans (KpV.below HB6.out))
  have J6 := HJ.out _ _ _ none J3.out (grown_below HB6.out none) (fun r e => by cases e)
  have HU := zH (And.intro u0 (And.intro u1 u2))
  have HPB := zH (show Byt P0 from hP0 ▸ byt_take HMB.out a)
  have HPL := zH (And.intro hP0 (And.intro hP1 (And.intro hP2 (And.intro l0 (And.intro l1 (And.intro l2 hq))))))
  clear hP0 hP1 hP2 lM l0 l1 l2 u0 u1 u2 hs1 hq hsz5
  gi_wp2_with fail
  obtain ⟨fn, tmps, assign, body, hy, hR⟩ := HY.out _ true w6 J6
  simp only [encBp] at hy
  have HRR := zH hR
  clear hR
  gi_wp2_with fail
  refine HRR.out.mono ?_
  rintro e W3 (⟨rfl, hgx, hJ3, hk3⟩ | ⟨rfl, hx3⟩)
  rotate_left
  ·have HX3 := zH hx3
   clear hx3
   gi_wp2
   repeat ((first | refine ⟨trivial, ?_⟩ | refine ⟨(fun _ _ => trivial), ?_⟩); gi_wp2)
   refine bodyPost_ret (results_none rfl _ _ _) rfl ?_
   exact ⟨⟨_, rfl⟩, .inr ⟨_, ⟨_, by rw [HTL2.out]; rfl⟩, HX3.out⟩⟩
  clear HRR hy hgx
  have J3 := zH hJ3
  clear hJ3 J6
  have hk4 : KpV (fun k => k = lp ∨ k = bw) _ _ := hk3
  have HK6 := zH (HK6.out.trans hk4)
  have HKP := zH (HKP.out.trans hk4)
  have p0 := hk4.cellP p0 (HNG6.out g2 hg2)
  have p1 := hk4.cellP p1 (HNG6.out g2 hg2)
  have p2 := hk4.cellP p2 (HNG6.out g2 hg2)
  have p3 := hk4.cellP p3 (HNG6.out g1 hg1)
  clear hk3 hk4
  have HBT := zH (((HU.out.1.kp HK6.out HNG6.out).reads).bts HPB.out)
  gi_wp2_with fail
  refine ⟨trivial, ?_⟩
  refine (callsIn_wide.2 (Oc.trim_any _ _ _ (u8s P0) _ HBT.out (by have := HPL.out; have := HKA2.out; omega))).mono ?_
  rintro e w8 ⟨⟨vt, rfl, hot⟩, hb8⟩
  obtain ⟨at8, ct8, rfl, -, -⟩ := hot.form
  rw [HPL.out.2.2.2.2.2.2]
  have HK6 := zH (HK6.out.trans (KpV.below hb8))
  have HKP := zH (HKP.out.trans (KpV.below hb8))
  have J8 := HJ.out _ _ _ none J3.out (grown_below hb8 none) (fun r e => by cases e)
  have kb8 : KpV (fun _ => False) W3 w8 := KpV.below hb8
  have p1 := kb8.cellP p1 (fun e => e)
  have p2 := kb8.cellP p2 (fun e => e)
  have p3 := kb8.cellP p3 (fun e => e)
  have p0 := kb8.cellP p0 (fun e => e)
  clear hot hb8 kb8
  obtain ⟨fn, tmps, assign, body, hy, hR⟩ := HY.out _ t5 w8 J8
  simp only [encBp] at hy
  have HRR := zH hR
  clear hR
  gi_wp2_with fail
  refine HRR.out.mono ?_
  rintro e W3 (⟨rfl, hgx, hJ3, hk3⟩ | ⟨rfl, hx3⟩)
  rotate_left
  ·have HX3 := zH hx3
   clear hx3
   gi_wp2
   repeat ((first | refine ⟨trivial, ?_⟩ | refine ⟨(fun _ _ => trivial), ?_⟩); gi_wp2)
   refine bodyPost_ret (results_none rfl _ _ _) rfl ?_
   exact ⟨⟨_, rfl⟩, .inr ⟨_, ⟨_, by rw [HTL2.out]; rfl⟩, HX3.out⟩⟩
  clear HRR hy b5 d5
  subst hgx
  have J3 := zH hJ3
  clear hJ3 J8
  have hk4 : KpV (fun k => k = lp ∨ k = bw) _ _ := hk3
  have HK6 := zH (HK6.out.trans hk4)
  have HKP := zH (HKP.out.trans hk4)
  have p0 := hk4.cellP p0 (HNG6.out g2 hg2)
  have p1 := hk4.cellP p1 (HNG6.out g2 hg2)
  have p2 := hk4.cellP p2 (HNG6.out g2 hg2)
  have p3 := hk4.cellP p3 (HNG6.out g1 hg1)
  clear hk3 hk4
  obtain ⟨fn, tmps, assign, body, hy, hR⟩ := HY.out _ t6 W3 J3.out
  simp only [encBp] at hy
  have HRR := zH hR
  clear hR
  gi_wp2_with fail
  refine HRR.out.mono ?_
  rintro e W3 (⟨rfl, hgx, hJ3, hk3⟩ | ⟨rfl, hx3⟩)
  rotate_left
  ·have HX3 := zH hx3
   clear hx3
   gi_wp2
   repeat ((first | refine ⟨trivial, ?_⟩ | refine ⟨(fun _ _ => trivial), ?_⟩); gi_wp2)
   refine bodyPost_ret (results_none rfl _ _ _) rfl ?_
   exact ⟨⟨_, rfl⟩, .inr ⟨_, ⟨_, by rw [HTL2.out]; rfl⟩, HX3.out⟩⟩
  clear HRR hy b6 d6
  subst hgx
  have J3 := zH hJ3
  clear hJ3
  have hk4 : KpV (fun k => k = lp ∨ k = bw) _ _ := hk3
  have HK6 := zH (HK6.out.trans hk4)
  have HKP := zH (HKP.out.trans hk4)
  have p0 := hk4.cellP p0 (HNG6.out g2 hg2)
  have p1 := hk4.cellP p1 (HNG6.out g2 hg2)
  have p2 := hk4.cellP p2 (HNG6.out g2 hg2)
  have p3 := hk4.cellP p3 (HNG6.out g1 hg1)
  clear hk3 hk4
  gi_wp2_with fail
  have hsz := HSZ.out
  have hne := HNE.out
  have hlt := HLT.out
  have hq1 := HK6.out.cellP HQ1.out (HNG.out g hg)
  have hpp := HKP.out.cellP BP.out.cell (by show ¬ (bpp = lp ∨ bpp = bw); omega)
  have hqb : W3.heap[bp]? = some (.cells #[.slice none 0 0, .slice none 0 0] 120) := (HKP.out.2 bp (by omega) (by omega)).trans BQ.out
  have z0 : W3.cell? ⟨bp, 0, none⟩ = some (.slice none 0 0) := by simp [World.cell?, hqb]
  have z1 : W3.cell? ⟨bp, 1, none⟩ = some (.slice none 0 0) := by simp [World.cell?, hqb]
  have f0 : W3.frozen? ⟨bp, 0, none⟩ = false := by simp [World.frozen?, hqb]
  have f1 : W3.frozen? ⟨bp, 1, none⟩ = false := by simp [World.frozen?, hqb]
  have hs1 := HB.out.size
  have hs5 := HS5.out
  have x5 : bpp ≠ bp := HN7.out
  have x6 : bp ≠ bpp := fun e => x5 e.symm
  have x1 : bp ≠ g := by omega
  have x2 : bp ≠ g2 := by omega
  have x3 : g ≠ bp := by omega
  have x4 : g2 ≠ bp := by omega
  clear hsz hne hlt hs1 hs5 hqb p0 p1 p3
  refine wpIn_wide.2 (wp_region_held_drew (S := fun X => X.cell? ⟨bpp, 0, none⟩ = some (.pointer (some ⟨bp, 0, none⟩)) ∧ X.cell? ⟨g, 1, none⟩ = some (.slice (some ⟨gI, 0, none⟩) S cI) ∧ X.cell? ⟨g2, 2, none⟩ = some (.slice za sn zc)) (by kernel_rfl) ⟨hpp, hq1, p2⟩ (fun hHeld => ?_))
  refine' wpAnyH_take (i := 0) rfl (by kernel_rfl) (by kernel_rfl) (by kernel_rfl) (fun _ _ _ h => h) (Or.inl ⟨?_, ?_⟩) (by assumption) ?_
  rotate_left
  all_goals (try simp only [zq4, zq5, zq6])
  ·rfl
  ·intro W hSw; (try dsimp only at hSw); go_simp; (try with_reducible rfl)
  try simp only [Act.put, zq1, zq2, zq3]
  refine' wpAnyH_take (i := 1) rfl (by kernel_rfl) (by kernel_rfl) (by kernel_rfl) (fun _ _ _ h => h) (Or.inl ⟨?_, ?_⟩) (by assumption) ?_
  rotate_left
  all_goals (try simp only [zq4, zq5, zq6])
  ·rfl
  ·intro W hSw; (try dsimp only at hSw); go_simp; (try with_reducible rfl)
  try simp only [Act.put, zq1, zq2, zq3]
  refine' wpAnyH_take (i := 2) rfl (by kernel_rfl) (by kernel_rfl) (by kernel_rfl) (fun _ _ _ h => h) (Or.inl ⟨?_, ?_⟩) (by assumption) ?_
  rotate_left
  all_goals (try simp only [zq4, zq5, zq6])
  ·rfl
  ·intro W hSw; (try dsimp only at hSw); go_simp; (try with_reducible rfl)
  try simp only [Act.put, zq1, zq2, zq3]
  refine' wpAnyH_take (i := 3) rfl (by kernel_rfl) (by kernel_rfl) (by kernel_rfl) (fun _ _ _ h => h) (Or.inl ⟨?_, ?_⟩) (by assumption) ?_
  rotate_left
  all_goals (try simp only [zq4, zq5, zq6])
  ·rfl
  ·intro W hSw; (try dsimp only at hSw); go_simp; (try with_reducible rfl)
  try simp only [Act.put, zq1, zq2, zq3]
  refine' wpAnyH_take (i := 4) rfl (by kernel_rfl) (by kernel_rfl) (by kernel_rfl) (fun _ _ _ h => h) (Or.inl ⟨?_, ?_⟩) (by assumption) ?_
  rotate_left
  all_goals (try simp only [zq4, zq5, zq6])
  ·rfl
  ·intro W hSw; (try dsimp only at hSw); go_simp; (try with_reducible rfl)
  try simp only [Act.put, zq1, zq2, zq3]
  refine' wpAnyH_take (i := 5) rfl (by kernel_rfl) (by kernel_rfl) (by kernel_rfl) (fun _ _ _ h => h) (Or.inl ⟨?_, ?_⟩) (by assumption) ?_
  rotate_left
  all_goals (try simp only [zq4, zq5, zq6])
  ·rfl
  ·intro W hSw; (try dsimp only at hSw); go_simp; (try with_reducible rfl)
  try simp only [Act.put, zq1, zq2, zq3]
  refine' wpAnyH_take (i := 6) rfl (by kernel_rfl) (by kernel_rfl) (by kernel_rfl) (fun _ _ _ h => h) (Or.inl ⟨?_, ?_⟩) (by assumption) ?_
  rotate_left
  all_goals (try simp only [zq4, zq5, zq6])
  ·rfl
  ·intro W hSw; (try dsimp only at hSw); go_simp; (try with_reducible rfl)
  try simp only [Act.put, zq1, zq2, zq3]
  refine' wpAnyH_take (i := 7) rfl (by kernel_rfl) (by kernel_rfl) (by kernel_rfl) (fun _ _ _ h => h) (Or.inl ⟨?_, ?_⟩) (by assumption) ?_
  rotate_left
  all_goals (try simp only [zq4, zq5, zq6])
  ·rfl
  ·intro W hSw; (try dsimp only at hSw); go_simp; (try with_reducible rfl)
  try simp only [Act.put, zq1, zq2, zq3]
  refine' wpAnyH_take (i := 8) rfl (by kernel_rfl) (by kernel_rfl) (by kernel_rfl) (fun _ _ _ h => h) (Or.inl ⟨?_, ?_⟩) (by assumption) ?_
  rotate_left
  all_goals (try simp only [zq4, zq5, zq6])
  ·rfl
  ·intro W hSw; (try dsimp only at hSw); go_simp; (try with_reducible rfl)
  try simp only [Act.put, zq1, zq2, zq3]
  refine' wpAnyH_take (i := 9) rfl (by kernel_rfl) (by kernel_rfl) (by kernel_rfl) (fun _ _ _ h => h) (Or.inl ⟨?_, ?_⟩) (by assumption) ?_
  rotate_left
  all_goals (try simp only [zq4, zq5, zq6])
  ·rfl
  ·intro W hSw; (try dsimp only at hSw); go_simp; (try with_reducible rfl)
  try simp only [Act.put, zq1, zq2, zq3]
  refine wpAnyH_ready (rs := [10]) (by kernel_rfl) (by simp) ?_
  refine AllReadyH.cons (o := _) rfl (fun K hK => ?_) AllReadyH.nil
  try simp only [zq4, zq5, zq6]
  go_simp
  refine hK.out _ _ (by refine ⟨?_, ?_, ?_⟩ <;> go_simp) (fun hHeld => ?_)
  clear hK K
  try simp only [Act.put, zq1, zq2, zq3]
  refine' wpAnyH_take (i := 11) rfl (by kernel_rfl) (by kernel_rfl) (by kernel_rfl) (fun _ _ _ h => h) (Or.inl ⟨?_, ?_⟩) (by assumption) ?_
  rotate_left
  all_goals (try simp only [zq4, zq5, zq6])
  ·rfl
  ·intro W hSw; (try dsimp only at hSw); go_simp; (try with_reducible rfl)
  try simp only [Act.put, zq1, zq2, zq3]
  refine' wpAnyH_take (i := 12) rfl (by kernel_rfl) (by kernel_rfl) (by kernel_rfl) (fun _ _ _ h => h) (Or.inl ⟨?_, ?_⟩) (by assumption) ?_
  rotate_left
  all_goals (try simp only [zq4, zq5, zq6])
  ·rfl
  ·intro W hSw; (try dsimp only at hSw); go_simp; (try with_reducible rfl)
  try simp only [Act.put, zq1, zq2, zq3]
  refine wpAnyH_ready (rs := [13]) (by kernel_rfl) (by simp) ?_
  refine AllReadyH.cons (o := _) rfl (fun K hK => ?_) AllReadyH.nil
  try simp only [zq4, zq5, zq6]
  go_simp
  refine hK.out _ _ (by refine ⟨?_, ?_, ?_⟩ <;> go_simp) (fun hHeld => ?_)
  clear hK K
  try simp only [Act.put, zq1, zq2, zq3]
  refine wpAnyH_done (by kernel_rfl) ?_ _
  go_end0
  clear hHeld
  have j1 := HJ.out _ _ _ (some bp) J3.out (grown_cellP W3 ⟨bp, 0, none⟩ (.slice (some ⟨gI, 0, none⟩) S cI)) (fun r e => by cases e; rfl)
  have j2 := HJ.out _ _ _ (some bp) j1 (grown_cellP _ ⟨bp, 1, none⟩ (.slice za sn zc)) (fun r e => by cases e; rfl)
  have j3 := HJ.out _ _ _ none j2 (grown_drewP _) (fun r e => by cases e)
  have kX := ((KpV.grown (E := fun k => k = bp) (grown_cellP W3 ⟨bp, 0, none⟩ (.slice (some ⟨gI, 0, none⟩) S cI)) (fun r e => by cases e; rfl)).trans (KpV.grown (grown_cellP _ ⟨bp, 1, none⟩ (.slice za sn zc)) (fun r e => by cases e; rfl))).drewR
  have y0 : (((W3.setCell ⟨bp, 0, none⟩ (.slice (some ⟨gI, 0, none⟩) S cI)).setCell ⟨bp, 1, none⟩ (.slice za sn zc)).drew).cell? ⟨bp, 0, none⟩ = some (.slice (some ⟨gI, 0, none⟩) S cI) := by go_simp
  have y1 : (((W3.setCell ⟨bp, 0, none⟩ (.slice (some ⟨gI, 0, none⟩) S cI)).setCell ⟨bp, 1, none⟩ (.slice za sn zc)).drew).cell? ⟨bp, 1, none⟩ = some (.slice za sn zc) := by go_simp
  have hsz := HSZ.out
  have hs1 := HB.out.size
  have hs5 := HS5.out
  have oI := (((HOI.out.below HB6.out).kp HK6.out HNG.out).kp kX (fun k hk (e : k = bp) => by omega)).mono (show bp + 1 ≤ _ by omega)
  have oS := ((HU.out.2.2.kp HK6.out HNG6.out).kp kX (fun k hk (e : k = bp) => by omega)).mono (show bp + 1 ≤ _ by omega)
  refine ⟨⟨_, rfl⟩, .inl ⟨_, by rw [HTL2.out]; rfl, j3, ?_⟩⟩
  rw [← HTT.out, HLS.out.2.1, HLS.out.1, HM.out, HPL.out.2.2.1]
  refine ⟨some ⟨gI, 0, none⟩, cI, za, zc, bp + 1, Nat.lt_succ_self _, ?_, ?_, ?_, ?_⟩
  ·rw [HLS.out.2.2.2.2.1]; exact y0
  ·rw [HPL.out.2.2.2.2.2.1]; exact y1
  ·rw [HLS.out.2.2.2.2.1]; exact oI
  ·rw [HPL.out.2.2.2.2.2.1]; exact oS
end Go.Proofs.YtpefjkndfifceaaGreatDoor
namespace Go.Proofs.YtpefjkndfifceaaGreatDoor
open Go.RowKit
set_option maxRecDepth 100000
theorem looks_m (w : World) (p : Option Addr) (h : Int) (a : Option Addr) (n c : Nat) (sn bits : Int) : Calls Tryz.prog 134 #[.pointer p, .int .i64 h, .slice a n c, .int .i64 sn, .int .i64 bits] w fun e w' => ∃ bpp bh bb bz bi, e = .returned (.func (.func 171) #[] #[.pointer (some ⟨bh, 0, none⟩), .pointer (some ⟨bb, 0, none⟩), .pointer (some ⟨bi, 0, none⟩), .pointer (some ⟨bz, 0, none⟩), .pointer (some ⟨bpp, 0, none⟩)]) ∧
  w' = ((((w.alloc (.cells #[.pointer p] 201)).alloc (.cells #[.int .i64 h] 26)).alloc (.cells #[.slice a n c] 22)).alloc (.cells #[.int .i64 sn] 3)).alloc (.cells #[.int .i64 bits] 3) ∧
  bpp = w.heap.size ∧ bh = w.heap.size + 1 ∧ bb = w.heap.size + 2 ∧ bz = w.heap.size + 3 ∧ bi = w.heap.size + 4 := by
 go_enter Tryz.func134, Tryz.ntmps134
 go_wp2
 go_ret
 exact ⟨_, _, _, _, _, rfl, rfl, rfl, rfl, rfl, rfl, rfl⟩
end Go.Proofs.YtpefjkndfifceaaGreatDoor
namespace Go.Proofs.YtpefjkndfifceaaGreatDoor
open Go.RowKit
set_option maxRecDepth 100000
def partI (h n : Nat) (b : List Nat) : List Nat := (b.drop (lenP n - mSize h - 1)).take (mSize h)
def partS (h sn n : Nat) (b : List Nat) : List Nat := (maskedP h (b.take (lenP n - mSize h - 1)) (partI h n b) n).drop (lenP n - mSize h - 1 - sn)
def fineP (h sn : Nat) (b : List Nat) (n : Nat) : Bool := (testsP h sn b n).all id
theorem bare_noughts : ∀ (l : List Nat) (_ : Byt l), (Oc.bareL (u8s l)).length = 0 ↔ l = List.replicate l.length 0
 | [], _ => ⟨fun _ => rfl, fun _ => rfl⟩
 | x :: r, hb => by
  have hx : x < 256 := hb x List.mem_cons_self
  have ih := bare_noughts r (fun y hy => hb y (List.mem_cons_of_mem _ hy))
  rw [List.length_cons, List.replicate_succ, List.cons.injEq]
  unfold Oc.bareL u8s at ih ⊢
  rw [List.map_cons, List.dropWhile_cons]
  by_cases h0 : x = 0
  ·subst h0
   rw [if_pos (by decide)]
   exact ih.trans ⟨fun h => ⟨rfl, h⟩, fun h => h.2⟩
  ·rw [if_neg]
   ·exact ⟨fun h => by simp at h, fun h => absurd h.1 h0⟩
   ·intro h1
    rw [beq_iff_eq] at h1
    have h2 := congrArg UInt8.toNat h1
    rw [UInt8.toNat_ofNat', Nat.mod_eq_of_lt (show x < 2 ^ 8 from hx)] at h2
    exact h0 h2
theorem bit_255 (m i : Nat) (hi : i < 8) : (255 ^^^ m).testBit i = !(m.testBit i) := by
 rw [Nat.testBit_xor, show (255 : Nat) = 2 ^ 8 - 1 from rfl, Nat.testBit_two_pow_sub_one, decide_eq_true hi, Bool.true_xor]
theorem fits_of (x m : Nat) (hx : x < 256) (h : x &&& (255 ^^^ m) = 0) : x &&& m = x := by
 refine Nat.eq_of_testBit_eq fun i => ?_
 rw [Nat.testBit_and]
 by_cases hi : i < 8
 ·have h1 := congrArg (fun y => y.testBit i) h
  simp only [Nat.testBit_and, bit_255 m i hi, Nat.zero_testBit] at h1
  cases hb : x.testBit i with
  | false => rfl
  | true =>
   rw [hb, Bool.true_and, Bool.not_eq_false'] at h1
   rw [h1]; rfl
 ·rw [Nat.testBit_lt_two_pow (Nat.lt_of_lt_of_le hx (Nat.pow_le_pow_right (n := 2) (by decide) (show 8 ≤ i by omega)))]
  rfl
theorem of_fits (x m : Nat) (hx : x < 256) (h : x &&& m = x) : x &&& (255 ^^^ m) = 0 := by
 refine Nat.eq_of_testBit_eq fun i => ?_
 rw [Nat.testBit_and, Nat.zero_testBit]
 by_cases hi : i < 8
 ·have h1 := congrArg (fun y => y.testBit i) h
  simp only [Nat.testBit_and] at h1
  rw [bit_255 m i hi]
  cases hb : x.testBit i with
  | false => rfl
  | true =>
   rw [hb, Bool.true_and] at h1
   rw [h1]; rfl
 ·rw [Nat.testBit_lt_two_pow (Nat.lt_of_lt_of_le hx (Nat.pow_le_pow_right (n := 2) (by decide) (show 8 ≤ i by omega)))]
  rfl
theorem cut_three {X I : List Nat} {K S : Nat} (z : Nat) (hX : X.length = K) (hI : I.length = S) : (X ++ I ++ [z]).take K = X ∧ ((X ++ I ++ [z]).drop K).take S = I ∧ (X ++ I ++ [z]).drop (K + S) = [z] := by
 refine ⟨?_, ?_, ?_⟩
 ·rw [List.append_assoc, List.take_left' hX]
 ·rw [List.append_assoc, List.drop_left' hX, List.take_left' hI]
 ·rw [List.drop_left' (by rw [List.length_append]; omega)]
theorem part_cut {h n K S : Nat} {X I : List Nat} (z : Nat) (hX : X.length = K) (hI : I.length = S) (hS : mSize h = S) (hN : lenP n = K + S + 1) : partI h n (X ++ I ++ [z]) = I := by
 unfold partI
 rw [hS, hN, show K + S + 1 - S - 1 = K by omega]
 exact (cut_three z hX hI).2.1
theorem parts_cut {h n K S : Nat} {X I : List Nat} (z sn : Nat) (hX : X.length = K) (hI : I.length = S) (hS : mSize h = S) (hN : lenP n = K + S + 1) : partS h sn n (X ++ I ++ [z]) = (maskedP h X I n).drop (K - sn) := by
 unfold partS
 rw [part_cut z hX hI hS hN, hS, hN, show K + S + 1 - S - 1 = K by omega, (cut_three z hX hI).1]
theorem fine_cut {h n K S a : Nat} {X I : List Nat} (z sn : Nat) (hX : X.length = K) (hI : I.length = S) (hS : mSize h = S) (hN : lenP n = K + S + 1) (ha : K = a + 1 + sn) :
  fineP h sn (X ++ I ++ [z]) n = true ↔ z = 188 ∧ X[0]?.getD 0 &&& (255 ^^^ lowP n) = 0 ∧ (Oc.bareL (u8s ((maskedP h X I n).take a))).length = 0 ∧ (((maskedP h X I n).drop a).take 1)[0]?.getD 0 = 1 := by
 obtain ⟨h1, h2, h3⟩ := cut_three z hX hI
 unfold fineP testsP
 dsimp only
 rw [hS, hN, show K + S + 1 - S - 1 = K by omega, show K - sn - 1 = a by omega, h1, h2, h3]
 simp only [List.all_cons, List.all_nil, id_eq, Bool.and_true, Bool.true_and, Bool.and_eq_true, beq_iff_eq]
 rfl
theorem list_last (l : List Nat) (n : Nat) (h : l.length = n + 1) : ∃ m z, l = m ++ [z] ∧ m.length = n := by
 refine ⟨l.dropLast, l.getLast (by intro e; rw [e] at h; simp at h), (List.dropLast_concat_getLast _).symm, by rw [List.length_dropLast, h]; rfl⟩
theorem list_parts (b : List Nat) (K S : Nat) (h : b.length = K + S + 1) : ∃ X I z, b = X ++ I ++ [z] ∧ X.length = K ∧ I.length = S := by
 obtain ⟨m, z, rfl, hm⟩ := list_last b (K + S) h
 exact ⟨m.take K, m.drop K, z, by rw [List.take_append_drop], by rw [List.length_take]; omega, by rw [List.length_drop]; omega⟩
theorem room_parts {h : Nat} {sn : Nat} {n : Nat} (hr : RoomP (h : Int) (sn : Int) (n : Int)) : ∃ K S a, mSize h = S ∧ lenP n = K + S + 1 ∧ K = a + 1 + sn := by
 obtain ⟨-, -, -, -, hfit⟩ := hr
 rw [Int.toNat_natCast, Int.toNat_natCast] at hfit
 exact ⟨lenP n - mSize h - 1, mSize h, lenP n - mSize h - 1 - sn - 1, rfl, by omega, by omega⟩
theorem block_fits (n a : Nat) (s : List Nat) : FitsP (lowP n) (List.replicate a 0 ++ [1] ++ s) := by
 cases a with
 | succ a => simp [FitsP, List.replicate_succ]
 | zero =>
  have h2 := lenP_bits n
  have h3 : ∀ k, k < 8 → 1 &&& (255 / 2 ^ k) = 1 := by decide
  have := h3 _ h2.1
  simpa [FitsP, lowP] using this
theorem ems_fine {h : Nat} (hh : IsHash h) (d s : List Nat) {sn n : Nat} (hsl : s.length = sn) (bs : Byt s) (hr : RoomP (h : Int) (sn : Int) (n : Int)) :
  fineP h sn (emsP h d s n) n = true ∧ partI h n (emsP h d s n) = innerP h d s ∧ partS h sn n (emsP h d s n) = s ∧ (emsP h d s n).length = lenP n ∧ Byt (emsP h d s n) := by
 obtain ⟨K, S, a, hS, hN, ha⟩ := room_parts hr
 have he : emsP h d s n = maskedP h (List.replicate a 0 ++ [1] ++ s) (innerP h d s) n ++ innerP h d s ++ [188] := by
  unfold emsP blockP
  rw [hN, hS, hsl, show K + S + 1 - S - 1 - sn - 1 = a by omega]
 have hbl : (List.replicate a 0 ++ [1] ++ s).length = K := by simp [hsl]; omega
 have hX : (maskedP h (List.replicate a 0 ++ [1] ++ s) (innerP h d s) n).length = K := by rw [masked_len hh, hbl]
 have hI : (innerP h d s).length = S := by rw [innerP_len hh, hS]
 have hIb : Byt (innerP h d s) := mHash_byt hh _
 have hBb : Byt (List.replicate a 0 ++ [1] ++ s) := fun x hx => by
  rcases List.mem_append.1 hx with hx | hx
  ·rcases List.mem_append.1 hx with hx | hx
   ·rw [(List.mem_replicate.1 hx).2]; decide
   ·rw [List.mem_singleton.1 hx]; decide
  ·exact bs x hx
 have hXb := masked_byt hh (innerP h d s) n hBb
 have hback := masked_back hh (List.replicate a 0 ++ [1] ++ s) (innerP h d s) n (block_fits n a s)
 have hfit := masked_fits h (List.replicate a 0 ++ [1] ++ s) (innerP h d s) n
 rw [he]
 generalize maskedP h (List.replicate a 0 ++ [1] ++ s) (innerP h d s) n = X at *
 generalize innerP h d s = I at *
 refine ⟨?_, part_cut 188 hX hI hS hN, ?_, ?_, ?_⟩
 ·refine (fine_cut 188 sn hX hI hS hN ha).2 ⟨rfl, of_fits _ _ ?_ hfit, ?_, ?_⟩
  ·cases X with
   | nil => decide
   | cons x r => exact hXb x List.mem_cons_self
  ·rw [hback, List.append_assoc, List.take_left' (by simp), bare_noughts _ (fun x hx => by rw [(List.mem_replicate.1 hx).2]; decide), List.length_replicate]
  ·rw [hback, List.append_assoc, List.drop_left' (by simp)]
   rfl
 ·rw [parts_cut 188 sn hX hI hS hN, hback, List.drop_left' (by simp; omega)]
 ·rw [List.length_append, List.length_append, hX, hI, hN]; rfl
 ·intro x hx
  rcases List.mem_append.1 hx with hx | hx
  ·rcases List.mem_append.1 hx with hx | hx
   ·exact hXb x hx
   ·exact hIb x hx
  ·rw [List.mem_singleton.1 hx]; decide
theorem fine_only {h : Nat} (hh : IsHash h) (b : List Nat) {sn n : Nat} (hb : Byt b) (hl : b.length = lenP n) (hr : RoomP (h : Int) (sn : Int) (n : Int)) (hf : fineP h sn b n = true) :
  (partS h sn n b).length = sn ∧ Byt (partS h sn n b) ∧ (partI h n b).length = mSize h ∧ ∀ d, emsP h d (partS h sn n b) n = b ↔ innerP h d (partS h sn n b) = partI h n b := by
 obtain ⟨K, S, a, hS, hN, ha⟩ := room_parts hr
 obtain ⟨X, I, z, rfl, hX, hI⟩ := list_parts b K S (by rw [hl, hN])
 obtain ⟨rfl, h3, h4, h5⟩ := (fine_cut z sn hX hI hS hN ha).1 hf
 have hXb : Byt X := fun x hx => hb x (List.mem_append_left _ (List.mem_append_left _ hx))
 have hXf : FitsP (lowP n) X := fits_of _ _ (by
  cases X with
  | nil => decide
  | cons x r => exact hXb x List.mem_cons_self) h3
 have hback := masked_back hh X I n hXf
 have hM := masked_len hh X I n
 have hMb := masked_byt hh I n hXb
 rw [parts_cut 188 sn hX hI hS hN, part_cut 188 hX hI hS hN]
 have hml : (maskedP h (maskedP h X I n) I n) = X := hback
 generalize maskedP h X I n = M at *
 rw [hX] at hM
 rw [bare_noughts _ (fun x hx => hMb x (List.mem_of_mem_take hx)), List.length_take, hM, Nat.min_eq_left (by omega)] at h4
 have hM2 : M = List.replicate a 0 ++ [1] ++ M.drop (K - sn) := by
  have e1 := List.take_append_drop a M
  have e2 := List.take_append_drop 1 (M.drop a)
  rw [List.drop_drop] at e2
  have e3 : (M.drop a).take 1 = [1] := by
   cases hd : M.drop a with
   | nil => have := congrArg List.length hd; rw [List.length_drop, hM] at this; simp at this; omega
   | cons x r => rw [hd] at h5; simp at h5; rw [h5]; rfl
  rw [e3] at e2
  rw [h4, ← e2] at e1
  rw [show K - sn = a + 1 by omega, List.append_assoc]
  exact e1.symm
 have hsl : (M.drop (K - sn)).length = sn := by rw [List.length_drop, hM]; omega
 refine ⟨hsl, fun x hx => hMb x (List.mem_of_mem_drop hx), hI.trans hS.symm, fun d => ?_⟩
 generalize M.drop (K - sn) = s at *
 have he : emsP h d s n = maskedP h (List.replicate a 0 ++ [1] ++ s) (innerP h d s) n ++ innerP h d s ++ [188] := by
  unfold emsP blockP
  rw [hN, hS, hsl, show K + S + 1 - S - 1 - sn - 1 = a by omega]
 constructor
 ·intro e
  have hI2 : (innerP h d s).length = S := by rw [innerP_len hh, hS]
  have hX2 : (maskedP h (List.replicate a 0 ++ [1] ++ s) (innerP h d s) n).length = K := by
   rw [masked_len hh]
   simp [hsl]; omega
  have e2 := congrArg (partI h n) e
  rw [he, part_cut 188 hX2 hI2 hS hN, part_cut 188 hX hI hS hN] at e2
  exact e2
 ·intro e
  rw [he, e, ← hM2, hml]
end Go.Proofs.YtpefjkndfifceaaGreatDoor
namespace Go.Proofs.YtpefjkndfifceaaGreatDoor
open Go.RowKit
attribute [local go_sem] Oper.semAt_some
set_option maxRecDepth 100000
theorem encode_no (h : Int) (da : Option Addr) (dn dc : Nat) (sa : Option Addr) (sn sc : Nat) (n : Int) (hdn : dn ≤ 9223372036854775807) (hsn : sn ≤ 9223372036854775807) (n0 : -9223372036854775808 ≤ n) (n1 : n ≤ 9223372036854775807) (w : World) (hk : Kinds w) (hno : ¬ (RoomP h (sn : Int) n ∧ dn = mSize h.toNat)) :
  Calls Tryz.prog 81 #[.int .i64 h, .slice da dn dc, .slice sa sn sc, .int .i64 n] w fun e w' => e = .returned (.tuple #[.slice none 0 0, .int .i64 90]) ∧ Below w.heap.size w w' := by
 have HK := zH hk
 clear hk
 by_cases hr : RoomP h (sn : Int) n
 ·have HRD := zH (show decide (RoomP h (sn : Int) n) = true from decide_eq_true hr)
  have hne : dn ≠ mSize h.toNat := fun e => hno ⟨hr, e⟩
  obtain ⟨hh, -⟩ := hr
  obtain ⟨g, rfl⟩ : ∃ g : Nat, h = (g : Int) := ⟨h.toNat, by rcases hh with e | e | e | e <;> omega⟩
  rw [Int.toNat_natCast] at hh hne
  have HH := zH hh
  have hS := mSize_le hh
  obtain ⟨S, hSS⟩ : ∃ S, mSize g = S := ⟨_, rfl⟩
  rw [hSS] at hne hS
  have HSS := zH hSS
  have t1 : ((dn : Int) != (S : Int)) = true := by simp; omega
  clear hno hh hSS hne
  go_enter Tryz.func81, Tryz.ntmps81
  go_wp2_with fail
  refine (room_p (g : Int) (sn : Int) n (by omega) (by omega) n0 n1 _ HK.out).mono ?_
  rintro e w1 ⟨rfl, hb⟩
  rw [HRD.out]
  have HB := zH hb
  clear hb
  go_wp2_with fail
  refine (size_yes g HH.out _ (HK.out.below HB.out)).mono ?_
  rintro e w2 ⟨rfl, hb⟩
  rw [HSS.out]
  have HB := zH (HB.out.trans (hb.mono HB.out.size))
  clear hb
  go_wp2
  go_ret2
  exact ⟨rfl, HB.out⟩
 ·have HRD := zH (show decide (RoomP h (sn : Int) n) = false from decide_eq_false hr)
  clear hr hno
  go_enter Tryz.func81, Tryz.ntmps81
  go_wp2_with fail
  refine (room_p h (sn : Int) n (by omega) (by omega) n0 n1 _ HK.out).mono ?_
  rintro e w1 ⟨rfl, hb⟩
  rw [HRD.out]
  have HB := zH hb
  clear hb
  go_wp2
  go_ret2
  exact ⟨rfl, HB.out⟩
theorem PartsAt.kept {bp : Nat} {I s : List Nat} {W W' : World} {row : Option Nat} (h : PartsAt bp I s W) (hg : W.grownBy W' row) (hr : ∀ r, row = some r → ∃ o : Obj, W.heap[r]? = some o ∧ o.isCells = false) : PartsAt bp I s W' := by
 obtain ⟨ia, ic, sa, sc, B, hB, h0, h1, h2, h3⟩ := h
 have hlt := World.block_lt_of_cell? W ⟨bp, 0, none⟩ h0
 have hne : some bp ≠ row := fun e => by
  obtain ⟨o, ho, hc⟩ := hr bp e.symm
  simp only [World.cell?, ho] at h0
  cases o <;> simp [Obj.isCells] at h0 hc
 exact ⟨ia, ic, sa, sc, B, hB, (World.cell?_of_block (a := ⟨bp, 0, none⟩) (hg.block bp hlt hne)).trans h0, (World.cell?_of_block (a := ⟨bp, 1, none⟩) (hg.block bp hlt hne)).trans h1, h2.keptW hg hr, h3.keptW hg hr⟩
theorem two_cells (W : World) (B : Nat) (v0 v1 u0 u1 : Value) (t : TypeId) (h : W.heap[B]? = some (.cells #[u0, u1] t)) : ((W.setCell ⟨B, 0, none⟩ v0).setCell ⟨B, 1, none⟩ v1).cell? ⟨B, 0, none⟩ = some v0 ∧ ((W.setCell ⟨B, 0, none⟩ v0).setCell ⟨B, 1, none⟩ v1).cell? ⟨B, 1, none⟩ = some v1 := by
 have c0 : W.cell? ⟨B, 0, none⟩ = some u0 := by simp [World.cell?, h]
 have c1 : W.cell? ⟨B, 1, none⟩ = some u1 := by simp [World.cell?, h]
 clear h
 constructor <;> go_simp
def LkI (w : World) (A bw : Nat) (pre : List Bool) (W : World) : Prop :=
 Boxed W bw 4 (.bool false) ∧ W.heap[A]? = some (.cells #[.slice none 0 0, .slice none 0 0] 120) ∧ (∀ x ∈ pre, x = true) ∧ bw < W.heap.size ∧ Below w.heap.size w W
def LkX (w : World) (A bw : Nat) (c : Code) (pre : List Bool) (W : World) : Prop :=
 c = .exit 0 ∧ Boxed W bw 4 (.bool true) ∧ W.heap[A]? = some (.cells #[.slice none 0 0, .slice none 0 0] 120) ∧ (∃ x ∈ pre, x = false) ∧ Below w.heap.size w W
theorem LkI.st {w : World} {A1 : Nat} (hA : w.heap.size < A1) {pre : List Bool} {W W' : World} {row : Option Nat} (h : LkI w w.heap.size (A1 + 1) pre W) (hg : W.grownBy W' row) (hr : ∀ r, row = some r → r = A1 ∨ A1 + 2 ≤ r) : LkI w w.heap.size (A1 + 1) pre W' := by
 obtain ⟨h1, h2, h3, h4, h5⟩ := h
 exact ⟨h1.kept hg fun e => by (rcases hr _ e.symm with h | h <;> omega), (hg.block _ (Array.getElem?_eq_some_iff.1 h2).1 fun e => by (rcases hr _ e.symm with h | h <;> omega)).trans h2, h3, Nat.lt_of_lt_of_le h4 hg.size, h5.grown hg h5.size fun r e => by (rcases hr r e with h | h <;> omega)⟩
theorem LkX.st {w : World} {A1 : Nat} (hA : w.heap.size < A1) {c : Code} {pre : List Bool} {W W' : World} {row : Option Nat} (h : LkX w w.heap.size (A1 + 1) c pre W) (hg : W.grownBy W' row) (hr : ∀ r, row = some r → r = A1 ∨ A1 + 2 ≤ r) : LkX w w.heap.size (A1 + 1) c pre W' := by
 obtain ⟨h0, h1, h2, h3, h5⟩ := h
 exact ⟨h0, h1.kept hg fun e => by (rcases hr _ e.symm with h | h <;> omega), (hg.block _ (Array.getElem?_eq_some_iff.1 h2).1 fun e => by (rcases hr _ e.symm with h | h <;> omega)).trans h2, h3, h5.grown hg h5.size fun r e => by (rcases hr r e with h | h <;> omega)⟩
theorem alloc_q (W : World) (o : Obj) (k : Nat) (hk : W.heap.size = k) : (W.alloc o).heap[k]? = some o ∧ (W.alloc o).heap.size = k + 1 ∧ (∀ (i : Nat) (v : Obj), W.heap[i]? = some v → (W.alloc o).heap[i]? = some v) ∧ ∀ B X, Below B X W → B ≤ k → Below B X (W.alloc o) := by
 subst hk
 exact ⟨World.alloc_heap_new W o, World.size_alloc W o, fun i v h => (Below.heap_alloc _ _ _ (Array.getElem?_eq_some_iff.1 h).1).trans h, fun B X h hB => h.alloc hB o⟩
theorem boxes_m (W : World) (o0 o1 o2 o3 o4 o5 o6 : Obj) : ∃ W0, ((((((W.alloc o0).alloc o1).alloc o2).alloc o3).alloc o4).alloc o5).alloc o6 = W0 ∧ W0.heap.size = W.heap.size + 7 ∧ Below W.heap.size W W0 ∧
  W0.heap[W.heap.size]? = some o0 ∧ W0.heap[W.heap.size + 1]? = some o1 ∧ W0.heap[W.heap.size + 2]? = some o2 ∧ W0.heap[W.heap.size + 3]? = some o3 ∧ W0.heap[W.heap.size + 4]? = some o4 ∧ W0.heap[W.heap.size + 5]? = some o5 ∧ W0.heap[W.heap.size + 6]? = some o6 := by
 obtain ⟨k, hk⟩ : ∃ k, W.heap.size = k := ⟨_, rfl⟩
 rw [hk]
 have b0 : Below k W W := hk ▸ Below.refl _ W
 obtain ⟨a0, s0, p0, c0⟩ := alloc_q W o0 k hk
 replace c0 := c0 k W b0 (by omega)
 generalize W.alloc o0 = W1 at *
 obtain ⟨a1, s1, p1, c1⟩ := alloc_q W1 o1 _ s0
 replace c1 := c1 k W c0 (by omega)
 generalize W1.alloc o1 = W2 at *
 obtain ⟨a2, s2, p2, c2⟩ := alloc_q W2 o2 _ s1
 replace c2 := c2 k W c1 (by omega)
 generalize W2.alloc o2 = W3 at *
 obtain ⟨a3, s3, p3, c3⟩ := alloc_q W3 o3 _ s2
 replace c3 := c3 k W c2 (by omega)
 generalize W3.alloc o3 = W4 at *
 obtain ⟨a4, s4, p4, c4⟩ := alloc_q W4 o4 _ s3
 replace c4 := c4 k W c3 (by omega)
 generalize W4.alloc o4 = W5 at *
 obtain ⟨a5, s5, p5, c5⟩ := alloc_q W5 o5 _ s4
 replace c5 := c5 k W c4 (by omega)
 generalize W5.alloc o5 = W6 at *
 obtain ⟨a6, s6, p6, c6⟩ := alloc_q W6 o6 _ s5
 replace c6 := c6 k W c5 (by omega)
 exact ⟨_, rfl, s6, c6, p6 _ _ (p5 _ _ (p4 _ _ (p3 _ _ (p2 _ _ (p1 _ _ a0))))), p6 _ _ (p5 _ _ (p4 _ _ (p3 _ _ (p2 _ _ a1)))), p6 _ _ (p5 _ _ (p4 _ _ (p3 _ _ a2))), p6 _ _ (p5 _ _ (p4 _ _ a3)), p6 _ _ (p5 _ _ a4), p6 _ _ a5, a6⟩
set_option maxHeartbeats 2000000 in
theorem read_good (h : Nat) (hh : IsHash h) (ba : Option Addr) (bn bc : Nat) (b : List Nat) (sn n : Nat) (w : World) (hk : Kinds w) (hr : Reads .u8 w ba bn bc b) (hby : Byt b) (hroom : RoomP (h : Int) (sn : Int) (n : Int)) (hbn : bn = lenP n) (hn100 : n ≤ 100000) :
  Calls Tryz.prog 99 #[.int .i64 (h : Int), .slice ba bn bc, .int .i64 (sn : Int), .int .i64 (n : Int)] w fun e w' => Below w.heap.size w w' ∧
   ((fineP h sn b n = true ∧ ∃ ia ic sa sc, e = .returned (.tuple #[.agg #[.slice ia (mSize h) ic, .slice sa sn sc], .int .i64 0]) ∧ OwnQ .u8 5 w.heap.size w' (.slice ia (mSize h) ic) (partI h n b) ∧ OwnQ .u8 5 w.heap.size w' (.slice sa sn sc) (partS h sn n b)) ∨
   (fineP h sn b n = false ∧ e = .returned (.tuple #[.agg #[.slice none 0 0, .slice none 0 0], .int .i64 90]))) := by
 have HK := zH hk
 have HR := zH hr
 have HBY := zH hby
 have HRM := zH hroom
 have HRD := zH (show decide (RoomP (h : Int) (sn : Int) (n : Int)) = true from decide_eq_true hroom)
 have HH := zH hh
 have hS := mSize_le hh
 have HLP := zH (fun (W : World) => length_p n (by omega) W)
 have HKL := zH hk.lt
 have HBN := zH hbn
 have hN2 : bn ≤ 20000 := by rw [hbn]; unfold lenP; omega
 have hsn2 : sn ≤ 20000 := by have := hroom.2.2.2.2; rw [Int.toNat_natCast, Int.toNat_natCast, ← hbn] at this; omega
 rw [← hbn] at HLP
 clear hk hr hby hroom hh hbn
 refine (callsIn_wide (n := 3)).1 ?_
 refine callsIn_of_wp_marks Tryz.func99 rfl trivial ?_ rfl
 simp only [Tryz.ntmps99, List.size_toArray, List.length_cons, List.length_nil, Nat.reduceAdd, Nat.reduceSub, Array.replicate_succ, Array.replicate_zero, List.push_toArray, List.append_toArray, List.nil_append, List.cons_append]
 gi_wp2_with fail
 refine wpIn_wide.2 (wp_scope_straight ((wpIn_wide (n := 3)).1 ?_))
 gi_wp2_with fail
 refine ⟨trivial, ?_⟩
 refine (callsIn_wide.2 (room_p (h : Int) (sn : Int) (n : Int) (by omega) (by omega) (by omega) (by omega) _ (HK.out.below ((Below.refl _ w).alloc (Nat.le_refl _) _)))).mono ?_
 rintro e w1 ⟨rfl, hb⟩
 rw [HRD.out]
 have HBa := zH hb
 have HB := zH (((Below.refl w.heap.size w).alloc (Nat.le_refl _) (.cells #[.slice none 0 0, .slice none 0 0] 120)).trans (hb.mono (by simp)))
 have HA := zH (show w1.heap[w.heap.size]? = some (.cells #[.slice none 0 0, .slice none 0 0] 120) from (hb.block w.heap.size (by simp)).trans (World.alloc_heap_new w _))
 clear hb
 gi_wp2_with fail
 refine ⟨trivial, ?_⟩
 refine (callsIn_wide.2 (HLP.out _)).mono ?_
 rintro e w2 ⟨rfl, rfl⟩
 gi_wp2_with fail
 refine wpIn_label ?_
 gi_wp2_with fail
 refine ⟨trivial, ?_⟩
 refine (callsIn_wide.2 (looks_m _ _ _ _ _ _ _ _)).mono ?_
 rintro e w' ⟨bpp, bh, bb, bz, bi, rfl, rfl, rfl, rfl, rfl, rfl, rfl⟩
 simp only [World.size_alloc, Nat.add_assoc, Nat.reduceAdd]
 obtain ⟨W0, hW0, hsz, hbel, q0, q1, q2, q3, q4, q5, q6⟩ := boxes_m w1 (.cells #[.slice none 0 0, .slice none 0 0] 120) (.cells #[.bool false] 4) (.cells #[.pointer (some ⟨w1.heap.size, 0, none⟩)] 201) (.cells #[.int .i64 (h : Int)] 26) (.cells #[.slice ba bn bc] 22) (.cells #[.int .i64 (sn : Int)] 3) (.cells #[.int .i64 (n : Int)] 3)
 rw [hW0]
 have hA : w.heap.size < w1.heap.size := (Array.getElem?_eq_some_iff.1 HA.out).1
 have HA0 := zH ((hbel.block w.heap.size hA).trans HA.out)
 have HB0 := zH (HB.out.trans (hbel.mono HB.out.size))
 clear hW0 HA HB HBa hbel
 generalize w1.heap.size = A1 at *
 have hbw : w.heap.size + 1 ≤ A1 + 1 := by omega
 have hab : 0 < bn → ∀ x, ba = some x → x.block < w.heap.size := fun hp x e => by
  obtain ⟨bk, off, e2, hlt, -⟩ := HR.out.cells (by omega)
  rw [e] at e2
  cases e2
  exact hlt
 have HLS := zH (looks_come (3 - 1) (by decide) h HH.out ba bn bc b sn n W0 (HK.out.below HB0.out) (HR.out.below HB0.out) HBY.out HRM.out HBN.out hn100 w.heap.size (A1 + 3) (A1 + 4) (A1 + 6) (A1 + 5) (A1 + 2) A1 (A1 + 1) HKL.out hab q3 q4 q6 q5 q2 q0
  (by omega) (by omega) (by omega) (by omega) (by omega) (by omega) (by omega) (by omega) (by omega) (by omega) (by omega))
 clear hab
 gi_wp2_with fail
 refine wpIn_rangeV (F := Fence.wide) rfl (show 1 ≤ 3 by decide) (gf := 171) (lb := #[.pointer (some ⟨A1 + 3, 0, none⟩), .pointer (some ⟨A1 + 4, 0, none⟩), .pointer (some ⟨A1 + 6, 0, none⟩), .pointer (some ⟨A1 + 5, 0, none⟩), .pointer (some ⟨A1 + 2, 0, none⟩)]) rfl trivial (enters_of Tryz.func171 (by kernel_rfl) rfl) HLS.out
  (fun k hk => by omega) (Below.refl _ _) (fun _ => rfl)
  (fun pre W => LkI w w.heap.size (A1 + 1) pre W) (fun c pre W => LkX w w.heap.size (A1 + 1) c pre W)
  (fun s X X' row h hg hr => h.st hA hg (fun r e => by rcases hr r e with h | ⟨h, h2⟩ <;> omega))
  (fun c s X X' row h hg hr => h.st hA hg (fun r e => by rcases hr r e with h | ⟨h, h2⟩ <;> omega))
  (fun pre x X h => h.2.2.1 x (by simp)) (fun s X X' row h hg hr => h.kept hg (fun r e => by rcases hr r e with h | ⟨h, h2⟩; exact h.elim; exact h2))
  ⟨q1, HA0.out, (fun x hx => by cases hx), by omega, HB0.out⟩ ?_ ?_ ?_ ?_ ?_
 rotate_left 1
 ·intro lp x W K hK
  dsimp only [encBp]
  gi_wp2
  exact hK
 ·rintro lp pre x W ⟨bW, hAq, hall, hlt, hB⟩
  have cW := bW.cell
  have fW := bW.frozen
  have BW := zH bW
  have HA := zH hAq
  have HB := zH hB
  have HALL := zH hall
  clear bW hAq hall hB
  cases x with
  | false =>
   gi_wp2
   exact ⟨(KeepsOthers.setCell W ⟨A1 + 1, 0, none⟩ _).from W0.heap.size, rfl, BW.out.set _, (Below.heap_setCell W ⟨A1 + 1, 0, none⟩ _ _ (show w.heap.size ≠ A1 + 1 by omega)).trans HA.out, ⟨false, by simp, rfl⟩, HB.out.setCell (p := ⟨A1 + 1, 0, none⟩) (by show w.heap.size ≤ A1 + 1; omega) _⟩
  | true =>
   gi_wp2
   refine ⟨KeepsFrom.refl _ _, KpV.refl _ _, BW.out, HA.out, ?_, hlt, HB.out⟩
   intro y hy
   rcases List.mem_append.1 hy with h | h
   ·exact HALL.out y h
   ·exact List.mem_singleton.1 h
 ·rintro D xs W hD rfl ⟨bW, hAq, hall, hlt, hB⟩ hT hK
  have hfine : fineP h sn b n = true := List.all_eq_true.2 (fun x hx => hall x hx)
  have hlen := fine_only HH.out b HBY.out (HR.out.length.trans HBN.out) HRM.out hfine
  obtain ⟨ia, ic, sa, sc, Bx, hBx, c0, c1, oI, oS⟩ := hT
  change W.cell? ⟨A1, 0, none⟩ = some (.slice ia (partI h n b).length ic) at c0
  change W.cell? ⟨A1, 1, none⟩ = some (.slice sa (partS h sn n b).length sc) at c1
  change OwnQ _ _ Bx W (.slice ia (partI h n b).length ic) (partI h n b) at oI
  change OwnQ _ _ Bx W (.slice sa (partS h sn n b).length sc) (partS h sn n b) at oS
  rw [hlen.2.2.1] at c0 oI
  rw [hlen.1] at c1 oS
  have HF := zH hfine
  clear hall hlen hfine
  generalize hpI : partI h n b = pI at *
  generalize hpS : partS h sn n b = pS at *
  have HPI := zH hpI
  have HPS := zH hpS
  clear hpI hpS
  have cW := bW.cell
  have cA0 : W.cell? ⟨w.heap.size, 0, none⟩ = some (.slice none 0 0) := by simp [World.cell?, hAq]
  have cA1 : W.cell? ⟨w.heap.size, 1, none⟩ = some (.slice none 0 0) := by simp [World.cell?, hAq]
  have fA0 : W.frozen? ⟨w.heap.size, 0, none⟩ = false := by simp [World.frozen?, hAq]
  have fA1 : W.frozen? ⟨w.heap.size, 1, none⟩ = false := by simp [World.frozen?, hAq]
  have OI := zH oI
  have OS := zH oS
  have HK := zH hK
  have HB := zH hB
  have HAQ := zH hAq
  clear hK oI oS hB
  gi_wp2_with fail
  rw [Exit.noGoto_ret]
  obtain ⟨W2, hW2⟩ : ∃ W2, (W.setCell ⟨w.heap.size, 0, none⟩ (.slice ia (mSize h) ic)).setCell ⟨w.heap.size, 1, none⟩ (.slice sa sn sc) = W2 := ⟨_, rfl⟩
  obtain ⟨y0, y1⟩ := two_cells W w.heap.size (.slice ia (mSize h) ic) (.slice sa sn sc) _ _ _ HAQ.out
  rw [hW2] at y0 y1
  have kp : KpV (fun k => k = w.heap.size) W W2 := by rw [← hW2]; exact (KpV.grown (grown_cellP W _ _) (fun r e => by cases e; rfl)).trans (KpV.grown (grown_cellP _ _ _) (fun r e => by cases e; rfl))
  have hbW : Below w.heap.size w W2 := by rw [← hW2]; exact (HB.out.setCell (p := ⟨w.heap.size, 0, none⟩) (Nat.le_refl _) _).setCell (p := ⟨w.heap.size, 1, none⟩) (Nat.le_refl _) _
  rw [hW2]
  have oI2 := OI.out.kp kp (fun k hk e => by omega)
  have oS2 := OS.out.kp kp (fun k hk e => by omega)
  have hK2 := (kp.2 D (Array.getElem?_eq_some_iff.1 HK.out).1 (fun e => by omega)).trans HK.out
  have hg := grownBy_putObj' W2 D (.deferred none)
  have hr : ∀ r, some D = some r → ∃ o : Obj, W2.heap[r]? = some o ∧ o.isCells = false := fun r e => by cases e; exact ⟨_, hK2, rfl⟩
  have z0 : (W2.putObj D (.deferred none)).cell? ⟨w.heap.size, 0, none⟩ = some (.slice ia (mSize h) ic) := (World.cell?_of_block (a := ⟨w.heap.size, 0, none⟩) (World.putObj_heap_other (show w.heap.size ≠ D by omega))).trans y0
  have z1 : (W2.putObj D (.deferred none)).cell? ⟨w.heap.size, 1, none⟩ = some (.slice sa sn sc) := (World.cell?_of_block (a := ⟨w.heap.size, 1, none⟩) (World.putObj_heap_other (show w.heap.size ≠ D by omega))).trans y1
  refine ⟨by simp, .inl ⟨_, _, rfl, run_takeDeferred hK2, ?_⟩⟩
  refine ⟨.tuple #[.agg #[.slice ia (mSize h) ic, .slice sa sn sc], .int .i64 0], ?_, ?_, .inl ⟨HF.out, _, _, _, _, rfl, by rw [HPI.out]; exact (oI2.keptW hg hr).mono (show w.heap.size ≤ Bx by omega), by rw [HPS.out]; exact (oS2.keptW hg hr).mono (show w.heap.size ≤ Bx by omega)⟩⟩
  ·rw [results_cell_tmp rfl]
   go_simp
  ·exact hbW.trans (belowK_b (w := w) (Nat.le_refl _) W2 D _ _ (by omega) hK2 rfl rfl)
 ·rintro D c pre W hD ⟨r, hr⟩ ⟨rfl, bW, hAq, ⟨x, hx, hx2⟩, hB⟩ hK
  have hfine : fineP h sn b n = false := by
   rw [Bool.eq_false_iff]
   intro e
   have := List.all_eq_true.1 e x (by rw [← hr]; exact List.mem_append_left _ hx)
   rw [hx2] at this
   cases this
  have cW := bW.cell
  have cA0 : W.cell? ⟨w.heap.size, 0, none⟩ = some (.slice none 0 0) := by simp [World.cell?, hAq]
  have cA1 : W.cell? ⟨w.heap.size, 1, none⟩ = some (.slice none 0 0) := by simp [World.cell?, hAq]
  have fA0 : W.frozen? ⟨w.heap.size, 0, none⟩ = false := by simp [World.frozen?, hAq]
  have fA1 : W.frozen? ⟨w.heap.size, 1, none⟩ = false := by simp [World.frozen?, hAq]
  have HF := zH hfine
  have HK := zH hK
  have HB := zH hB
  have HAQ := zH hAq
  clear hfine hr hx hK hB
  gi_wp2_with fail
  rw [Exit.noGoto_ret]
  obtain ⟨W2, hW2⟩ : ∃ W2, (W.setCell ⟨w.heap.size, 0, none⟩ (.slice none 0 0)).setCell ⟨w.heap.size, 1, none⟩ (.slice none 0 0) = W2 := ⟨_, rfl⟩
  obtain ⟨y0, y1⟩ := two_cells W w.heap.size (.slice none 0 0) (.slice none 0 0) _ _ _ HAQ.out
  rw [hW2] at y0 y1
  have kp : KpV (fun k => k = w.heap.size) W W2 := by rw [← hW2]; exact (KpV.grown (grown_cellP W _ _) (fun r e => by cases e; rfl)).trans (KpV.grown (grown_cellP _ _ _) (fun r e => by cases e; rfl))
  have hbW : Below w.heap.size w W2 := by rw [← hW2]; exact (HB.out.setCell (p := ⟨w.heap.size, 0, none⟩) (Nat.le_refl _) _).setCell (p := ⟨w.heap.size, 1, none⟩) (Nat.le_refl _) _
  rw [hW2]
  have hK2 := (kp.2 D (Array.getElem?_eq_some_iff.1 HK.out).1 (fun e => by omega)).trans HK.out
  have z0 : (W2.putObj D (.deferred none)).cell? ⟨w.heap.size, 0, none⟩ = some (.slice none 0 0) := (World.cell?_of_block (a := ⟨w.heap.size, 0, none⟩) (World.putObj_heap_other (show w.heap.size ≠ D by omega))).trans y0
  have z1 : (W2.putObj D (.deferred none)).cell? ⟨w.heap.size, 1, none⟩ = some (.slice none 0 0) := (World.cell?_of_block (a := ⟨w.heap.size, 1, none⟩) (World.putObj_heap_other (show w.heap.size ≠ D by omega))).trans y1
  refine ⟨by simp, .inl ⟨_, _, rfl, run_takeDeferred hK2, ?_⟩⟩
  refine ⟨.tuple #[.agg #[.slice none 0 0, .slice none 0 0], .int .i64 90], ?_, ?_, .inr ⟨HF.out, rfl⟩⟩
  ·rw [results_cell_tmp rfl]
   go_simp
  ·exact hbW.trans (belowK_b (w := w) (Nat.le_refl _) W2 D _ _ (by omega) hK2 rfl rfl)
theorem read_bad (h : Int) (ba : Option Addr) (bn bc : Nat) (sn n : Int) (hbn : bn ≤ 9223372036854775807) (s0 : -9223372036854775808 ≤ sn) (s1 : sn ≤ 9223372036854775807) (n0 : -9223372036854775808 ≤ n) (n1 : n ≤ 9223372036854775807) (w : World) (hk : Kinds w) (hno : ¬ (RoomP h sn n ∧ bn = lenP n.toNat)) :
  Calls Tryz.prog 99 #[.int .i64 h, .slice ba bn bc, .int .i64 sn, .int .i64 n] w fun e w' => e = .returned (.tuple #[.agg #[.slice none 0 0, .slice none 0 0], .int .i64 90]) ∧ Below w.heap.size w w' := by
 have HK := zH hk
 clear hk
 by_cases hr : RoomP h sn n
 ·have HRD := zH (show decide (RoomP h sn n) = true from decide_eq_true hr)
  have hne : bn ≠ lenP n.toNat := fun e => hno ⟨hr, e⟩
  obtain ⟨-, -, hn0, hn5, -⟩ := hr
  obtain ⟨m, rfl⟩ : ∃ m : Nat, n = (m : Int) := ⟨n.toNat, by omega⟩
  rw [Int.toNat_natCast] at hne
  have HLP := zH (fun (W : World) => length_p m (by omega) W)
  obtain ⟨N, hN⟩ : ∃ N, lenP m = N := ⟨_, rfl⟩
  have hNb : N ≤ 100000 := by rw [← hN]; unfold lenP; omega
  rw [hN] at HLP hne
  have t1 : ((bn : Int) != (N : Int)) = true := by simp; omega
  clear hno hne hN
  refine (callsIn_wide (n := 3)).1 ?_
  refine callsIn_of_wp_marks Tryz.func99 rfl trivial ?_ rfl
  simp only [Tryz.ntmps99, List.size_toArray, List.length_cons, List.length_nil, Nat.reduceAdd, Nat.reduceSub, Array.replicate_succ, Array.replicate_zero, List.push_toArray, List.append_toArray, List.nil_append, List.cons_append]
  gi_wp2_with fail
  refine wpIn_wide.2 (wp_scope_straight ((wpIn_wide (n := 3)).1 ?_))
  gi_wp2_with fail
  refine ⟨trivial, ?_⟩
  refine (callsIn_wide.2 (room_p h sn (m : Int) s0 s1 n0 n1 _ (HK.out.below ((Below.refl _ w).alloc (Nat.le_refl _) _)))).mono ?_
  rintro e w1 ⟨rfl, hb⟩
  rw [HRD.out]
  have HB := zH (((Below.refl w.heap.size w).alloc (Nat.le_refl _) (.cells #[.slice none 0 0, .slice none 0 0] 120)).trans (hb.mono (by simp)))
  have hAq : w1.heap[w.heap.size]? = some (.cells #[.slice none 0 0, .slice none 0 0] 120) := (hb.block w.heap.size (by simp)).trans (World.alloc_heap_new w _)
  clear hb
  gi_wp2_with fail
  refine ⟨trivial, ?_⟩
  refine (callsIn_wide.2 (HLP.out _)).mono ?_
  rintro e w2 ⟨rfl, rfl⟩
  have cA0 : w1.cell? ⟨w.heap.size, 0, none⟩ = some (.slice none 0 0) := by simp [World.cell?, hAq]
  have cA1 : w1.cell? ⟨w.heap.size, 1, none⟩ = some (.slice none 0 0) := by simp [World.cell?, hAq]
  have fA0 : w1.frozen? ⟨w.heap.size, 0, none⟩ = false := by simp [World.frozen?, hAq]
  have fA1 : w1.frozen? ⟨w.heap.size, 1, none⟩ = false := by simp [World.frozen?, hAq]
  gi_wp2_with fail
  rw [Exit.noGoto_ret]
  obtain ⟨y0, y1⟩ := two_cells w1 w.heap.size (.slice none 0 0) (.slice none 0 0) _ _ _ hAq
  refine ⟨.tuple #[.agg #[.slice none 0 0, .slice none 0 0], .int .i64 90], ?_, rfl, ?_⟩
  ·rw [results_cell_tmp rfl]
   go_simp
  ·exact (HB.out.setCell (p := ⟨w.heap.size, 0, none⟩) (Nat.le_refl _) _).setCell (p := ⟨w.heap.size, 1, none⟩) (Nat.le_refl _) _
 ·have HRD := zH (show decide (RoomP h sn n) = false from decide_eq_false hr)
  clear hr hno
  refine (callsIn_wide (n := 3)).1 ?_
  refine callsIn_of_wp_marks Tryz.func99 rfl trivial ?_ rfl
  simp only [Tryz.ntmps99, List.size_toArray, List.length_cons, List.length_nil, Nat.reduceAdd, Nat.reduceSub, Array.replicate_succ, Array.replicate_zero, List.push_toArray, List.append_toArray, List.nil_append, List.cons_append]
  gi_wp2_with fail
  refine wpIn_wide.2 (wp_scope_straight ((wpIn_wide (n := 3)).1 ?_))
  gi_wp2_with fail
  refine ⟨trivial, ?_⟩
  refine (callsIn_wide.2 (room_p h sn n s0 s1 n0 n1 _ (HK.out.below ((Below.refl _ w).alloc (Nat.le_refl _) _)))).mono ?_
  rintro e w1 ⟨rfl, hb⟩
  rw [HRD.out]
  have HB := zH (((Below.refl w.heap.size w).alloc (Nat.le_refl _) (.cells #[.slice none 0 0, .slice none 0 0] 120)).trans (hb.mono (by simp)))
  have hAq : w1.heap[w.heap.size]? = some (.cells #[.slice none 0 0, .slice none 0 0] 120) := (hb.block w.heap.size (by simp)).trans (World.alloc_heap_new w _)
  clear hb
  have cA0 : w1.cell? ⟨w.heap.size, 0, none⟩ = some (.slice none 0 0) := by simp [World.cell?, hAq]
  have cA1 : w1.cell? ⟨w.heap.size, 1, none⟩ = some (.slice none 0 0) := by simp [World.cell?, hAq]
  have fA0 : w1.frozen? ⟨w.heap.size, 0, none⟩ = false := by simp [World.frozen?, hAq]
  have fA1 : w1.frozen? ⟨w.heap.size, 1, none⟩ = false := by simp [World.frozen?, hAq]
  gi_wp2_with fail
  refine ⟨trivial, ?_⟩
  gi_wp2_with fail
  rw [Exit.noGoto_ret]
  obtain ⟨y0, y1⟩ := two_cells w1 w.heap.size (.slice none 0 0) (.slice none 0 0) _ _ _ hAq
  refine ⟨.tuple #[.agg #[.slice none 0 0, .slice none 0 0], .int .i64 90], ?_, rfl, ?_⟩
  ·rw [results_cell_tmp rfl]
   go_simp
  ·exact (HB.out.setCell (p := ⟨w.heap.size, 0, none⟩) (Nat.le_refl _) _).setCell (p := ⟨w.heap.size, 1, none⟩) (Nat.le_refl _) _
end Go.Proofs.YtpefjkndfifceaaGreatDoor
