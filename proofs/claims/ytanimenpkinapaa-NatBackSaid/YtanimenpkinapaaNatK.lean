/-
  THE LAW NatBack.
-/
import Derived.Test.YtanimenpkinapaaNatJ
import Derived.Deep.RegionHeld3
namespace Go.Proofs.Ytanimenpkinapaa
open Go.RowKit

theorem bytes_nat {a : Option Addr} {len cap n : Nat} {w : World} (hx : NatAt w (.slice a len cap) n) (hm : len ≤ 4398046511104) : Calls Try.prog 17 #[.slice a len cap] w fun e w' => RetsQ .u8 5 w.heap.size w' (natB 256 n).reverse e ∧ Below w.heap.size w w' := by
  obtain ⟨a', len', cap', l, he, hr, hl, rfl⟩ := hx
  cases he
  exact bytes_any _ _ _ _ w hr hl hm

theorem natB_top (n k : Nat) (hL : (natB 256 n).length = k + 1) : (natB 256 n).reverse[0]?.getD 0 ≠ 0 := by
  rw [List.getElem?_reverse (by omega), hL, show k + 1 - 1 - 0 = k by omega, natB_get (by decide)]
  have h1 := (natB_len_lt (b := 256) (by decide) n k).1 (by omega)
  have h2 := (natB_length (b := 256) (by decide) n (k + 1)).1 (by omega)
  have h3 : n / 256 ^ k < 256 := by rw [Nat.div_lt_iff_lt_mul (Nat.pow_pos (by decide))]; rw [Nat.pow_succ] at h2; omega
  have h4 : 0 < n / 256 ^ k := Nat.div_pos h1 (Nat.pow_pos (by decide))
  rw [Nat.mod_eq_of_lt h3]
  omega

theorem bytes_len (n : Nat) : (natB 256 n).length = (bitsN n + 7) / 8 := by
  have h : ∀ k, (natB 256 n).length ≤ k ↔ bitsN n ≤ 8 * k := fun k => by
    rw [natB_length (by decide), bitsN_le, Nat.pow_mul]
  have h1 := (h (natB 256 n).length).1 (Nat.le_refl _)
  have h2 := (h ((bitsN n + 7) / 8)).2 (by omega)
  have h3 := h ((natB 256 n).length - 1)
  omega

theorem top8 {n k j : Nat} (hj : topN = 256 ^ j) (hk : k ≤ j) (h : n < 256 ^ k) : n < topN := by
  rw [hj]; exact Nat.lt_of_lt_of_le h (Nat.pow_le_pow_right (by decide) hk)

theorem NatAt.drewN {w : World} {v : Value} {n : Nat} (h : NatAt w v n) (d : Nat) : NatAt (w.drewN d) v n := by
  obtain ⟨a, len, cap, l, rfl, hr, hl, hv⟩ := h
  exact ⟨a, len, cap, l, rfl, hr.drewN d, hl, hv⟩

theorem Reads.dropN {q : IntKind} {w : World} {b off len cap k : Nat} {l : List Nat} (h : Reads q w (some ⟨b, off, .none⟩) len cap l) (hk : k < len) : Reads q w (some ⟨b, off + k, .none⟩) (len - k) (cap - k) (l.drop k) := by
  obtain ⟨b', off', hb, hlt, hc⟩ := h.cells (by omega)
  cases hb
  refine ⟨by rw [List.length_drop, h.length], by have := h.le; omega, by have := h.max; omega, (fun h => by cases h), fun _ => ⟨b, off + k, rfl, hlt, fun i hi => ?_⟩⟩
  rw [show off + k + i = off + (k + i) from by omega, hc (k + i) (by omega), List.getElem?_drop]

theorem bareN_zeros (l : List Nat) (k : Nat) : bareN (l ++ List.replicate k 0) = bareN l := by
  induction k with
  | zero => simp
  | succ k ih => rw [List.replicate_succ', ← List.append_assoc, bareN_snoc_zero, ih]

theorem lead_drop (B : List Nat) (k : Nat) (hk : k ≤ B.length) (h0 : ∀ j, j < k → B[j]?.getD 0 = 0) (h1 : k < B.length → B[k]?.getD 0 ≠ 0) : (bareN B.reverse).reverse = B.drop k := by
  have e1 : B = List.replicate k 0 ++ B.drop k := by
    conv => lhs; rw [← List.take_append_drop k B]
    congr 1
    apply List.ext_getElem
    · simp; omega
    · intro i h2 h3
      simp only [List.length_take] at h2
      rw [List.getElem_take, List.getElem_replicate]
      have := h0 i (by omega)
      rwa [List.getElem?_eq_getElem (by omega)] at this
  have e2 : bareN B.reverse = bareN (B.drop k).reverse := by
    conv => lhs; rw [e1, List.reverse_append, List.reverse_replicate, bareN_zeros]
  rw [e2]
  rcases Nat.lt_or_ge k B.length with h | h
  · rw [List.drop_eq_getElem_cons h, List.reverse_cons, bareN_snoc]
    · simp
    · have := h1 h
      rwa [List.getElem?_eq_getElem h] at this
  · rw [List.drop_eq_nil_of_le h]; rfl

set_option maxRecDepth 100000 in
set_option maxHeartbeats 4000000 in
theorem back_main (a : Option Addr) (nx cx : Nat) (a' : Option Addr) (ny cy : Nat) (b : Option Addr) (lb cb : Nat) (n m : Nat) (B : List Nat) (w : World) (hx : NatAt w (.slice a nx cx) n) (hy : NatAt w (.slice a' ny cy) m) (hb : Reads .u8 w b lb cb B) (h1 : nx ≤ 250) (h2 : ny ≤ 250) (h3 : lb ≤ 1000) (hBy : Byt B) :
    Calls Try.prog 8 #[.slice a nx cx, .slice a' ny cy, .slice b lb cb] w fun e w' => e = .returned (.bool true) ∧ Below w.heap.size w w' := by
  have l1 := hx.lt h1
  have l2 := hy.lt h2
  have t0 := Lib.hid (top_le l1 (by decide))
  have t1 := Lib.hid (top_le l2 (by decide))
  have LB := Lib.hid (show Byt (natB 256 n).reverse from fun x hx => natB_digit (by decide) n x (List.mem_reverse.1 hx))
  have hval := Lib.hid (show valB 256 (natB 256 n).reverse.reverse = n by rw [List.reverse_reverse, natB_val (by decide)])
  have hlen := Lib.hid (show (natB 256 n).reverse.length ≤ 1024 by rw [List.length_reverse, natB_length (by decide), ← topN_256]; exact t0.out)
  have HX := Lib.hid hx
  have HY := Lib.hid hy
  have HB := Lib.hid hb
  have HBy := Lib.hid hBy
  have ht := Lib.hid (show valB 256 B.reverse < topN by
    have h5 := valB_lt (b := 256) (by decide) (l := B.reverse) (fun x hx => hBy x (List.mem_reverse.1 hx))
    rw [List.length_reverse, hb.length] at h5
    exact top8 topN_256 (by omega) h5)
  clear hx hy hb l1 l2 hBy
  go_enter Try.func8, Try.ntmps8
  go_wp2_with fail
  refine (alive_any _).mono ?_
  rintro e w1 ⟨rfl, hb⟩
  have H0 := Lib.hid hb
  replace HX := Lib.hid (HX.out.below hb)
  replace HY := Lib.hid (HY.out.below hb)
  replace HB := Lib.hid (HB.out.below hb)
  clear hb
  go_wp2_with fail
  refine (bytes_nat HX.out (by omega)).mono ?_
  rintro e w2 ⟨⟨v, rfl, ho⟩, hb⟩
  replace H0 := Lib.hid (H0.out.trans (hb.mono H0.out.size))
  replace HX := Lib.hid (HX.out.below hb)
  replace HY := Lib.hid (HY.out.below hb)
  replace HB := Lib.hid (HB.out.below hb)
  obtain ⟨al, nl, cl, rfl, hnl, ho⟩ := ho.slice
  have HL := Lib.hid ho.reads
  have HNL := Lib.hid hnl
  clear hnl ho
  clear hb
  go_wp2_with fail
  have HLN := Lib.hid (show nl ≤ 17592186044416 by have := HNL.out; have := hlen.out; omega)
  refine (read_any _ _ _ _ _ HL.out LB.out HLN.out).mono ?_
  rintro e w3 ⟨hr, hb⟩
  replace H0 := Lib.hid (H0.out.trans (hb.mono H0.out.size))
  replace HX := Lib.hid (HX.out.below hb)
  replace HY := Lib.hid (HY.out.below hb)
  replace HB := Lib.hid (HB.out.below hb)
  replace HL := Lib.hid (HL.out.below hb)
  rw [hval.out, cutR_small t0.out] at hr
  obtain ⟨v, rfl, hz⟩ := hr
  have HZ := Lib.hid (NatC.of hz)
  clear hz
  clear hb
  go_wp2_with fail
  refine (trim_nat HX.out t0.out).mono ?_
  rintro e w4 ⟨⟨v, rfl, hv⟩, hb⟩
  replace H0 := Lib.hid (H0.out.trans (hb.mono H0.out.size))
  replace HX := Lib.hid (HX.out.below hb)
  replace HY := Lib.hid (HY.out.below hb)
  replace HB := Lib.hid (HB.out.below hb)
  replace HL := Lib.hid (HL.out.below hb)
  replace HZ := Lib.hid (HZ.out.below hb)
  have HT := Lib.hid hv
  clear hb hv
  go_wp2_with fail
  refine (same_nat HZ.out HT.out true (by simp)).mono ?_
  rintro e w5 ⟨rfl, hb⟩
  replace H0 := Lib.hid (H0.out.trans (hb.mono H0.out.size))
  replace HX := Lib.hid (HX.out.below hb)
  replace HY := Lib.hid (HY.out.below hb)
  replace HB := Lib.hid (HB.out.below hb)
  replace HL := Lib.hid (HL.out.below hb)
  replace HZ := Lib.hid (HZ.out.below hb)
  replace HT := Lib.hid (HT.out.below hb)
  clear hb
  clear HZ HT
  have BBN := Lib.hid (show nl = (bitsN n + 7) / 8 by rw [HNL.out, List.length_reverse, bytes_len])
  have hbm := (bitsN_le n 8192).2 (by rw [← topN_two]; exact t0.out)
  obtain ⟨bb, hbb⟩ : ∃ b, b = bitsN n := ⟨_, rfl⟩
  have BB := Lib.hid hbb
  rw [← hbb] at BBN hbm
  clear hbb
  have hdv : ((bb : Int) + 7) / 8 = (nl : Int) := by have := BBN.out; omega
  have hfirst : Hid (nl = 0 ∨ ∃ bo off y, al = some ⟨bo, off, none⟩ ∧ w5.cell? ⟨bo, off, none⟩ = some (.int .u8 ((y : Nat) : Int)) ∧ y ≠ 0 ∧ 0 < nl) := by
    rcases Nat.eq_zero_or_pos nl with h | h
    · exact .inl h
    · obtain ⟨bo, off, rfl, _, hc⟩ := HL.out.cells h
      obtain ⟨k, hk⟩ : ∃ k, nl = k + 1 := ⟨nl - 1, by omega⟩
      exact .inr ⟨bo, off, _, rfl, hc 0 h, natB_top n k (by have := HNL.out; rw [List.length_reverse] at this; omega), h⟩
  clear HL
  have post : ∀ W : World, W = w5 → Hid True := fun _ _ => trivial
  clear post
  rcases hfirst.out with hz | ⟨bo, off, y, rfl, hcy, hy0, hnl0⟩
  case inl =>
    have HZ0 := Lib.hid hz
    obtain rfl := hz
    clear hfirst
    go_wp2_with fail
    refine (bits_nat HX.out (fun a len cap e => by cases e; omega) bb BB.out).mono ?_
    rintro e w' ⟨rfl, rfl⟩
    go_wp2
    go_loop [13] (fun i => ∃ k : Nat, k ≤ lb ∧ i = .int .i64 k ∧ Hid (∀ j, j < k → B[j]?.getD 0 = 0)) (fun i => lb - (intOf i).toNat)
    case atStart => exact ⟨0, Nat.zero_le _, rfl, fun j hj => by omega⟩
    case round =>
      obtain ⟨k, hk, rfl, hall⟩ := hrel
      by_cases hcont : k < lb ∧ B[k]?.getD 0 = 0
      · obtain ⟨hlt, hz⟩ := hcont
        obtain ⟨bo, off, rfl, _, hc⟩ := HB.out.cells (by omega)
        have hck := hc k hlt
        rw [hz] at hck
        have HZ := Lib.hid hz
        clear hc hz
        go_wp2
        go_round
        case rel => exact ⟨k + 1, by omega, by go_num, fun j hj => by
          by_cases e : j < k
          · exact hall.out j e
          · obtain rfl : j = k := by omega
            exact HZ.out⟩
        case measure => simp [intOf] <;> omega
      · have hld := Lib.hid (lead_drop B k (by rw [HB.out.length]; exact hk) hall.out (fun h => by rw [HB.out.length] at h; exact fun e => hcont ⟨h, e⟩))
        have hex : Hid (k = lb ∨ ∃ bo off y, b = some ⟨bo, off, none⟩ ∧ w5.cell? ⟨bo, off + k, none⟩ = some (.int .u8 ((y : Nat) : Int)) ∧ y ≠ 0 ∧ k < lb) := by
          rcases Nat.lt_or_ge k lb with h | h
          · obtain ⟨bo, off, rfl, _, hc⟩ := HB.out.cells (by omega)
            exact .inr ⟨bo, off, _, rfl, hc k h, fun e => hcont ⟨h, e⟩, h⟩
          · exact .inl (by omega)
        clear hcont
        have HRD := Lib.hid (read_any _ _ _ _ _ HB.out HBy.out (by omega))
        rcases hex.out with hz | ⟨bo2, off2, y2, rfl, hcy2, hy2, hlt2⟩
        · have hle := HB.out.le
          have HKL := Lib.hid hz
          rcases Nat.eq_zero_or_pos k with hk0 | hk0
          · obtain rfl := hk0
            obtain rfl := hz
            clear hex
            have hBe : Hid (B = []) := List.eq_nil_of_length_eq_zero HB.out.length
            cases b with
            | none =>
              obtain rfl : cb = 0 := HB.out.nil rfl
              go_wp2_with fail
              refine HRD.out.mono ?_
              rintro e w6 ⟨hr, hb⟩
              rw [cutR_small ht.out] at hr
              obtain ⟨v6, rfl, hz6⟩ := hr
              obtain ⟨ua, un, uc, rfl, hun, hz6⟩ := hz6.slice
              replace H0 := Lib.hid (H0.out.trans (hb.mono H0.out.size))
              replace HX := Lib.hid (HX.out.below hb)
              replace HY := Lib.hid (HY.out.below hb)
              replace HB := Lib.hid (HB.out.below hb)
              have HU := Lib.hid (NatC.of hz6)
              have hun8 : un ≤ 4398046511104 := by have := (natB_length (b := 4294967296) (by decide) (valB 256 B.reverse) 256).2 ht.out; rw [hun]; exact Nat.le_trans this (by decide)
              clear hb hz6 hun
              have HSB : Hid (Reads .u8 w6 none 0 0 (B.drop 0)) := Lib.hid (by rw [hBe.out]; exact Reads.none _ _)
              have hBd : Hid (Byt (B.drop 0)) := fun x hx => HBy.out x (List.mem_of_mem_drop hx)
              have hbyt := bytes_nat (show NatAt w6.drew _ _ from NatAt.drewN HU.out.at 1) hun8
              rw [show natB 256 (valB 256 B.reverse) = bareN B.reverse from (bareN_eq (by decide) (fun x hx => HBy.out x (List.mem_reverse.1 hx))).symm, hld.out] at hbyt
              have HBYT := Lib.hid hbyt
              clear hbyt
              obtain ⟨S, hS⟩ : ∃ S, strOf (u8s (B.drop 0)) = S := ⟨_, rfl⟩
              have hsd : Hid (Reads .u8 w6.drew _ _ _ (B.drop 0)) := HSB.out.drewN 1
              have kb0 := conv8 hsd.out hBd.out
              rw [hS] at kb0
              have HS := Lib.hid hS
              clear hS
              go_wp2_with fail
              refine wp_region_held_drew (S := fun W => (convert 24 9 (.slice none 0 0)).run Try.prog W = .ok (.string S) W) (by kernel_rfl) kb0 (fun hHeld => ?_)
              refine' wpAnyH_take (i := 0) (oi := _) (v := _) rfl (by kernel_rfl) (by kernel_rfl) (by kernel_rfl) (fun _ _ _ h => h) (Or.inl ⟨?_, ?_⟩) (by assumption) ?_
              rotate_left
              all_goals (try simp only [List.getElem_toArray, List.getElem_cons_succ, List.getElem_cons_zero])
              · rfl
              · intro W hSw; (try dsimp only at hSw); go_simp; (try with_reducible rfl)
              try simp only [Act.put, List.setIfInBounds_toArray, List.set_cons_zero, List.set_cons_succ]
              refine' wpAnyH_take (i := 1) (oi := _) (v := _) rfl (by kernel_rfl) (by kernel_rfl) (by kernel_rfl) (fun _ _ _ h => h) (Or.inl ⟨?_, ?_⟩) (by assumption) ?_
              rotate_left
              all_goals (try simp only [List.getElem_toArray, List.getElem_cons_succ, List.getElem_cons_zero])
              · rfl
              · intro W hSw; (try dsimp only at hSw); go_simp; (try with_reducible rfl)
              try simp only [Act.put, List.setIfInBounds_toArray, List.set_cons_zero, List.set_cons_succ]
              refine' wpAnyH_take (i := 2) (oi := _) (v := _) rfl (by kernel_rfl) (by kernel_rfl) (by kernel_rfl) (fun _ _ _ h => h) (Or.inl ⟨?_, ?_⟩) (by assumption) ?_
              rotate_left
              all_goals (try simp only [List.getElem_toArray, List.getElem_cons_succ, List.getElem_cons_zero])
              · rfl
              · intro W hSw; (try dsimp only at hSw); go_simp; (try with_reducible rfl)
              try simp only [Act.put, List.setIfInBounds_toArray, List.set_cons_zero, List.set_cons_succ]
              refine' wpAnyH_take (i := 3) (oi := _) (v := _) rfl (by kernel_rfl) (by kernel_rfl) (by kernel_rfl) (fun _ _ _ h => h) (Or.inl ⟨?_, ?_⟩) (by assumption) ?_
              rotate_left
              all_goals (try simp only [List.getElem_toArray, List.getElem_cons_succ, List.getElem_cons_zero])
              · rfl
              · intro W hSw; (try dsimp only at hSw); go_simp; (try with_reducible rfl)
              try simp only [Act.put, List.setIfInBounds_toArray, List.set_cons_zero, List.set_cons_succ]
              refine' wpAnyH_take (i := 6) (oi := _) (v := _) rfl (by kernel_rfl) (by kernel_rfl) (by kernel_rfl) (fun _ _ _ h => h) (Or.inl ⟨?_, ?_⟩) (by assumption) ?_
              rotate_left
              all_goals (try simp only [List.getElem_toArray, List.getElem_cons_succ, List.getElem_cons_zero])
              · rfl
              · intro W hSw; (try dsimp only at hSw); go_simp; (try with_reducible rfl)
              try simp only [Act.put, List.setIfInBounds_toArray, List.set_cons_zero, List.set_cons_succ]
              refine' wpAnyH_take (i := 7) (oi := _) (v := _) rfl (by kernel_rfl) (by kernel_rfl) (by kernel_rfl) (fun _ _ _ h => h) (Or.inl ⟨?_, ?_⟩) (by assumption) ?_
              rotate_left
              all_goals (try simp only [List.getElem_toArray, List.getElem_cons_succ, List.getElem_cons_zero])
              · rfl
              · intro W hSw; (try dsimp only at hSw); go_simp; (try with_reducible rfl)
              try simp only [Act.put, List.setIfInBounds_toArray, List.set_cons_zero, List.set_cons_succ]
              refine' wpAnyH_take (i := 8) (oi := _) (v := _) rfl (by kernel_rfl) (by kernel_rfl) (by kernel_rfl) (fun _ _ _ h => h) (Or.inl ⟨?_, ?_⟩) (by assumption) ?_
              rotate_left
              all_goals (try simp only [List.getElem_toArray, List.getElem_cons_succ, List.getElem_cons_zero])
              · rfl
              · intro W hSw; (try dsimp only at hSw); go_simp; (try with_reducible rfl)
              try simp only [Act.put, List.setIfInBounds_toArray, List.set_cons_zero, List.set_cons_succ]
              refine' wpAnyH_take (i := 9) (oi := _) (v := _) rfl (by kernel_rfl) (by kernel_rfl) (by kernel_rfl) (fun _ _ _ h => h) (Or.inl ⟨?_, ?_⟩) (by assumption) ?_
              rotate_left
              all_goals (try simp only [List.getElem_toArray, List.getElem_cons_succ, List.getElem_cons_zero])
              · rfl
              · intro W hSw; (try dsimp only at hSw); go_simp; (try with_reducible rfl)
              try simp only [Act.put, List.setIfInBounds_toArray, List.set_cons_zero, List.set_cons_succ]
              refine wpAnyH_ready (rs := [4]) (by kernel_rfl) (by simp) ?_
              refine AllReadyH.cons (o := _) rfl (fun K hK => ?_) AllReadyH.nil
              try simp only [List.getElem_toArray, List.getElem_cons_succ, List.getElem_cons_zero]
              go_simp
              refine HBYT.out.mono ?_
              rintro e w7 ⟨⟨v7, rfl, ho7⟩, hb7⟩
              obtain ⟨a7, n7, c7, rfl, hn7, ho7⟩ := ho7.slice
              have kb1 := conv8 ho7.reads hBd.out
              have kb2 := conv8 (hsd.out.below hb7) hBd.out
              rw [HS.out] at kb1 kb2
              have HB7 := Lib.hid hb7
              clear ho7 hb7 hn7
              go_wp2_with fail
              refine hK.out _ _ kb2 (fun hHeld => ?_)
              clear hK K
              try simp only [Act.put, List.setIfInBounds_toArray, List.set_cons_zero, List.set_cons_succ]
              refine wpAnyH_ready (rs := [5]) (by kernel_rfl) (by simp) ?_
              refine AllReadyH.cons (o := _) rfl (fun K hK => ?_) AllReadyH.nil
              try simp only [List.getElem_toArray, List.getElem_cons_succ, List.getElem_cons_zero]
              go_simp
              refine hK.out _ _ kb2 (fun hHeld => ?_)
              clear hK K
              try simp only [Act.put, List.setIfInBounds_toArray, List.set_cons_zero, List.set_cons_succ]
              refine' wpAnyH_take (i := 10) (oi := _) (v := _) rfl (by kernel_rfl) (by kernel_rfl) (by kernel_rfl) (fun _ _ _ h => h) (Or.inl ⟨?_, ?_⟩) (by assumption) ?_
              rotate_left
              all_goals (try simp only [List.getElem_toArray, List.getElem_cons_succ, List.getElem_cons_zero])
              · rfl
              · intro W hSw; (try dsimp only at hSw); go_simp; (try with_reducible rfl)
              try simp only [Act.put, List.setIfInBounds_toArray, List.set_cons_zero, List.set_cons_succ]
              refine' wpAnyH_take (i := 11) (oi := _) (v := _) rfl (by kernel_rfl) (by kernel_rfl) (by kernel_rfl) (fun _ _ _ h => h) (Or.inl ⟨?_, ?_⟩) (by assumption) ?_
              rotate_left
              all_goals (try simp only [List.getElem_toArray, List.getElem_cons_succ, List.getElem_cons_zero])
              · rfl
              · intro W hSw; (try dsimp only at hSw); go_simp; (try with_reducible rfl)
              try simp only [Act.put, List.setIfInBounds_toArray, List.set_cons_zero, List.set_cons_succ]
              refine wpAnyH_done (by kernel_rfl) ?_ _
              have hb := ((Below.refl w6.heap.size w6).drew).trans HB7.out
              replace H0 := Lib.hid (H0.out.trans (hb.mono H0.out.size))
              replace HX := Lib.hid (HX.out.below hb)
              replace HY := Lib.hid (HY.out.below hb)
              clear hb kb0 kb1 kb2
              go_wp2_with fail
              rcases Nat.lt_trichotomy n m with hlt | heq | hgt
              · have HLT := Lib.hid hlt
                clear hlt
                refine (sub_less HX.out HY.out (fun h => by have := HLT.out; omega)).mono ?_
                rintro e w8 ⟨⟨v8, rfl⟩, hb⟩
                replace H0 := Lib.hid (H0.out.trans (hb.mono H0.out.size))
                replace HX := Lib.hid (HX.out.below hb)
                replace HY := Lib.hid (HY.out.below hb)
                clear hb
                go_wp2_with fail
                refine (cmp_nat HX.out HY.out (-1) (ordN_lt HLT.out).symm).mono ?_
                rintro e w9 ⟨rfl, hb⟩
                replace H0 := Lib.hid (H0.out.trans (hb.mono H0.out.size))
                replace HX := Lib.hid (HX.out.below hb)
                replace HY := Lib.hid (HY.out.below hb)
                clear hb
                go_wp2_with fail
                refine (cmp_nat HY.out HX.out (1) (ordN_gt HLT.out).symm).mono ?_
                rintro e w10 ⟨rfl, hb⟩
                replace H0 := Lib.hid (H0.out.trans (hb.mono H0.out.size))
                clear hb
                go_wp2_with fail
                go_ret
                exact ⟨rfl, H0.out⟩
              · subst heq
                refine (sub_nat HX.out HY.out t0.out (Nat.le_refl _)).mono ?_
                rintro e w8 ⟨⟨v8, rfl, hd⟩, hb⟩
                obtain ⟨da, dn, dc, rfl, hdr⟩ := hd
                obtain rfl : dn = 0 := by rw [← hdr.length, Nat.sub_self, show nat32 0 = [] from natB_zero _]; rfl
                clear hdr
                replace H0 := Lib.hid (H0.out.trans (hb.mono H0.out.size))
                replace HX := Lib.hid (HX.out.below hb)
                replace HY := Lib.hid (HY.out.below hb)
                clear hb
                go_wp2_with fail
                refine (cmp_nat HX.out HY.out (0) (ordN_eq rfl).symm).mono ?_
                rintro e w9 ⟨rfl, hb⟩
                replace H0 := Lib.hid (H0.out.trans (hb.mono H0.out.size))
                replace HX := Lib.hid (HX.out.below hb)
                replace HY := Lib.hid (HY.out.below hb)
                clear hb
                go_wp2_with fail
                refine (cmp_nat HY.out HX.out (0) (ordN_eq rfl).symm).mono ?_
                rintro e w10 ⟨rfl, hb⟩
                replace H0 := Lib.hid (H0.out.trans (hb.mono H0.out.size))
                clear hb
                go_wp2_with fail
                go_ret
                exact ⟨rfl, H0.out⟩
              · have HGT := Lib.hid hgt
                clear hgt
                refine (sub_nat HX.out HY.out t0.out (by have := HGT.out; omega)).mono ?_
                rintro e w8 ⟨⟨v8, rfl, hd⟩, hb⟩
                clear hd
                replace H0 := Lib.hid (H0.out.trans (hb.mono H0.out.size))
                replace HX := Lib.hid (HX.out.below hb)
                replace HY := Lib.hid (HY.out.below hb)
                clear hb
                go_wp2_with fail
                refine (cmp_nat HX.out HY.out (1) (ordN_gt HGT.out).symm).mono ?_
                rintro e w9 ⟨rfl, hb⟩
                replace H0 := Lib.hid (H0.out.trans (hb.mono H0.out.size))
                replace HX := Lib.hid (HX.out.below hb)
                replace HY := Lib.hid (HY.out.below hb)
                clear hb
                go_wp2_with fail
                refine (cmp_nat HY.out HX.out (-1) (ordN_lt HGT.out).symm).mono ?_
                rintro e w10 ⟨rfl, hb⟩
                replace H0 := Lib.hid (H0.out.trans (hb.mono H0.out.size))
                clear hb
                go_wp2_with fail
                go_ret
                exact ⟨rfl, H0.out⟩
            | some ad =>
              rcases Nat.eq_zero_or_pos cb with hcb | hcb
              · subst hcb
                go_wp2_with fail
                refine HRD.out.mono ?_
                rintro e w6 ⟨hr, hb⟩
                rw [cutR_small ht.out] at hr
                obtain ⟨v6, rfl, hz6⟩ := hr
                obtain ⟨ua, un, uc, rfl, hun, hz6⟩ := hz6.slice
                replace H0 := Lib.hid (H0.out.trans (hb.mono H0.out.size))
                replace HX := Lib.hid (HX.out.below hb)
                replace HY := Lib.hid (HY.out.below hb)
                replace HB := Lib.hid (HB.out.below hb)
                have HU := Lib.hid (NatC.of hz6)
                have hun8 : un ≤ 4398046511104 := by have := (natB_length (b := 4294967296) (by decide) (valB 256 B.reverse) 256).2 ht.out; rw [hun]; exact Nat.le_trans this (by decide)
                clear hb hz6 hun
                have HSB : Hid (Reads .u8 w6 (some ad) 0 0 (B.drop 0)) := Lib.hid (by rw [hBe.out]; exact Reads.empty _ _ _ (by unfold maxLen; omega) (fun h => by cases h))
                have hBd : Hid (Byt (B.drop 0)) := fun x hx => HBy.out x (List.mem_of_mem_drop hx)
                have hbyt := bytes_nat (show NatAt w6.drew _ _ from NatAt.drewN HU.out.at 1) hun8
                rw [show natB 256 (valB 256 B.reverse) = bareN B.reverse from (bareN_eq (by decide) (fun x hx => HBy.out x (List.mem_reverse.1 hx))).symm, hld.out] at hbyt
                have HBYT := Lib.hid hbyt
                clear hbyt
                obtain ⟨S, hS⟩ : ∃ S, strOf (u8s (B.drop 0)) = S := ⟨_, rfl⟩
                have hsd : Hid (Reads .u8 w6.drew _ _ _ (B.drop 0)) := HSB.out.drewN 1
                have kb0 := conv8 hsd.out hBd.out
                rw [hS] at kb0
                have HS := Lib.hid hS
                clear hS
                go_wp2_with fail
                refine wp_region_held_drew (S := fun W => (convert 24 9 (.slice (some ad) 0 0)).run Try.prog W = .ok (.string S) W) (by kernel_rfl) kb0 (fun hHeld => ?_)
                refine' wpAnyH_take (i := 0) (oi := _) (v := _) rfl (by kernel_rfl) (by kernel_rfl) (by kernel_rfl) (fun _ _ _ h => h) (Or.inl ⟨?_, ?_⟩) (by assumption) ?_
                rotate_left
                all_goals (try simp only [List.getElem_toArray, List.getElem_cons_succ, List.getElem_cons_zero])
                · rfl
                · intro W hSw; (try dsimp only at hSw); go_simp; (try with_reducible rfl)
                try simp only [Act.put, List.setIfInBounds_toArray, List.set_cons_zero, List.set_cons_succ]
                refine' wpAnyH_take (i := 1) (oi := _) (v := _) rfl (by kernel_rfl) (by kernel_rfl) (by kernel_rfl) (fun _ _ _ h => h) (Or.inl ⟨?_, ?_⟩) (by assumption) ?_
                rotate_left
                all_goals (try simp only [List.getElem_toArray, List.getElem_cons_succ, List.getElem_cons_zero])
                · rfl
                · intro W hSw; (try dsimp only at hSw); go_simp; (try with_reducible rfl)
                try simp only [Act.put, List.setIfInBounds_toArray, List.set_cons_zero, List.set_cons_succ]
                refine' wpAnyH_take (i := 2) (oi := _) (v := _) rfl (by kernel_rfl) (by kernel_rfl) (by kernel_rfl) (fun _ _ _ h => h) (Or.inl ⟨?_, ?_⟩) (by assumption) ?_
                rotate_left
                all_goals (try simp only [List.getElem_toArray, List.getElem_cons_succ, List.getElem_cons_zero])
                · rfl
                · intro W hSw; (try dsimp only at hSw); go_simp; (try with_reducible rfl)
                try simp only [Act.put, List.setIfInBounds_toArray, List.set_cons_zero, List.set_cons_succ]
                refine' wpAnyH_take (i := 3) (oi := _) (v := _) rfl (by kernel_rfl) (by kernel_rfl) (by kernel_rfl) (fun _ _ _ h => h) (Or.inl ⟨?_, ?_⟩) (by assumption) ?_
                rotate_left
                all_goals (try simp only [List.getElem_toArray, List.getElem_cons_succ, List.getElem_cons_zero])
                · rfl
                · intro W hSw; (try dsimp only at hSw); go_simp; (try with_reducible rfl)
                try simp only [Act.put, List.setIfInBounds_toArray, List.set_cons_zero, List.set_cons_succ]
                refine' wpAnyH_take (i := 6) (oi := _) (v := _) rfl (by kernel_rfl) (by kernel_rfl) (by kernel_rfl) (fun _ _ _ h => h) (Or.inl ⟨?_, ?_⟩) (by assumption) ?_
                rotate_left
                all_goals (try simp only [List.getElem_toArray, List.getElem_cons_succ, List.getElem_cons_zero])
                · rfl
                · intro W hSw; (try dsimp only at hSw); go_simp; (try with_reducible rfl)
                try simp only [Act.put, List.setIfInBounds_toArray, List.set_cons_zero, List.set_cons_succ]
                refine' wpAnyH_take (i := 7) (oi := _) (v := _) rfl (by kernel_rfl) (by kernel_rfl) (by kernel_rfl) (fun _ _ _ h => h) (Or.inl ⟨?_, ?_⟩) (by assumption) ?_
                rotate_left
                all_goals (try simp only [List.getElem_toArray, List.getElem_cons_succ, List.getElem_cons_zero])
                · rfl
                · intro W hSw; (try dsimp only at hSw); go_simp; (try with_reducible rfl)
                try simp only [Act.put, List.setIfInBounds_toArray, List.set_cons_zero, List.set_cons_succ]
                refine' wpAnyH_take (i := 8) (oi := _) (v := _) rfl (by kernel_rfl) (by kernel_rfl) (by kernel_rfl) (fun _ _ _ h => h) (Or.inl ⟨?_, ?_⟩) (by assumption) ?_
                rotate_left
                all_goals (try simp only [List.getElem_toArray, List.getElem_cons_succ, List.getElem_cons_zero])
                · rfl
                · intro W hSw; (try dsimp only at hSw); go_simp; (try with_reducible rfl)
                try simp only [Act.put, List.setIfInBounds_toArray, List.set_cons_zero, List.set_cons_succ]
                refine' wpAnyH_take (i := 9) (oi := _) (v := _) rfl (by kernel_rfl) (by kernel_rfl) (by kernel_rfl) (fun _ _ _ h => h) (Or.inl ⟨?_, ?_⟩) (by assumption) ?_
                rotate_left
                all_goals (try simp only [List.getElem_toArray, List.getElem_cons_succ, List.getElem_cons_zero])
                · rfl
                · intro W hSw; (try dsimp only at hSw); go_simp; (try with_reducible rfl)
                try simp only [Act.put, List.setIfInBounds_toArray, List.set_cons_zero, List.set_cons_succ]
                refine wpAnyH_ready (rs := [4]) (by kernel_rfl) (by simp) ?_
                refine AllReadyH.cons (o := _) rfl (fun K hK => ?_) AllReadyH.nil
                try simp only [List.getElem_toArray, List.getElem_cons_succ, List.getElem_cons_zero]
                go_simp
                refine HBYT.out.mono ?_
                rintro e w7 ⟨⟨v7, rfl, ho7⟩, hb7⟩
                obtain ⟨a7, n7, c7, rfl, hn7, ho7⟩ := ho7.slice
                have kb1 := conv8 ho7.reads hBd.out
                have kb2 := conv8 (hsd.out.below hb7) hBd.out
                rw [HS.out] at kb1 kb2
                have HB7 := Lib.hid hb7
                clear ho7 hb7 hn7
                go_wp2_with fail
                refine hK.out _ _ kb2 (fun hHeld => ?_)
                clear hK K
                try simp only [Act.put, List.setIfInBounds_toArray, List.set_cons_zero, List.set_cons_succ]
                refine wpAnyH_ready (rs := [5]) (by kernel_rfl) (by simp) ?_
                refine AllReadyH.cons (o := _) rfl (fun K hK => ?_) AllReadyH.nil
                try simp only [List.getElem_toArray, List.getElem_cons_succ, List.getElem_cons_zero]
                go_simp
                refine hK.out _ _ kb2 (fun hHeld => ?_)
                clear hK K
                try simp only [Act.put, List.setIfInBounds_toArray, List.set_cons_zero, List.set_cons_succ]
                refine' wpAnyH_take (i := 10) (oi := _) (v := _) rfl (by kernel_rfl) (by kernel_rfl) (by kernel_rfl) (fun _ _ _ h => h) (Or.inl ⟨?_, ?_⟩) (by assumption) ?_
                rotate_left
                all_goals (try simp only [List.getElem_toArray, List.getElem_cons_succ, List.getElem_cons_zero])
                · rfl
                · intro W hSw; (try dsimp only at hSw); go_simp; (try with_reducible rfl)
                try simp only [Act.put, List.setIfInBounds_toArray, List.set_cons_zero, List.set_cons_succ]
                refine' wpAnyH_take (i := 11) (oi := _) (v := _) rfl (by kernel_rfl) (by kernel_rfl) (by kernel_rfl) (fun _ _ _ h => h) (Or.inl ⟨?_, ?_⟩) (by assumption) ?_
                rotate_left
                all_goals (try simp only [List.getElem_toArray, List.getElem_cons_succ, List.getElem_cons_zero])
                · rfl
                · intro W hSw; (try dsimp only at hSw); go_simp; (try with_reducible rfl)
                try simp only [Act.put, List.setIfInBounds_toArray, List.set_cons_zero, List.set_cons_succ]
                refine wpAnyH_done (by kernel_rfl) ?_ _
                have hb := ((Below.refl w6.heap.size w6).drew).trans HB7.out
                replace H0 := Lib.hid (H0.out.trans (hb.mono H0.out.size))
                replace HX := Lib.hid (HX.out.below hb)
                replace HY := Lib.hid (HY.out.below hb)
                clear hb kb0 kb1 kb2
                go_wp2_with fail
                rcases Nat.lt_trichotomy n m with hlt | heq | hgt
                · have HLT := Lib.hid hlt
                  clear hlt
                  refine (sub_less HX.out HY.out (fun h => by have := HLT.out; omega)).mono ?_
                  rintro e w8 ⟨⟨v8, rfl⟩, hb⟩
                  replace H0 := Lib.hid (H0.out.trans (hb.mono H0.out.size))
                  replace HX := Lib.hid (HX.out.below hb)
                  replace HY := Lib.hid (HY.out.below hb)
                  clear hb
                  go_wp2_with fail
                  refine (cmp_nat HX.out HY.out (-1) (ordN_lt HLT.out).symm).mono ?_
                  rintro e w9 ⟨rfl, hb⟩
                  replace H0 := Lib.hid (H0.out.trans (hb.mono H0.out.size))
                  replace HX := Lib.hid (HX.out.below hb)
                  replace HY := Lib.hid (HY.out.below hb)
                  clear hb
                  go_wp2_with fail
                  refine (cmp_nat HY.out HX.out (1) (ordN_gt HLT.out).symm).mono ?_
                  rintro e w10 ⟨rfl, hb⟩
                  replace H0 := Lib.hid (H0.out.trans (hb.mono H0.out.size))
                  clear hb
                  go_wp2_with fail
                  go_ret
                  exact ⟨rfl, H0.out⟩
                · subst heq
                  refine (sub_nat HX.out HY.out t0.out (Nat.le_refl _)).mono ?_
                  rintro e w8 ⟨⟨v8, rfl, hd⟩, hb⟩
                  obtain ⟨da, dn, dc, rfl, hdr⟩ := hd
                  obtain rfl : dn = 0 := by rw [← hdr.length, Nat.sub_self, show nat32 0 = [] from natB_zero _]; rfl
                  clear hdr
                  replace H0 := Lib.hid (H0.out.trans (hb.mono H0.out.size))
                  replace HX := Lib.hid (HX.out.below hb)
                  replace HY := Lib.hid (HY.out.below hb)
                  clear hb
                  go_wp2_with fail
                  refine (cmp_nat HX.out HY.out (0) (ordN_eq rfl).symm).mono ?_
                  rintro e w9 ⟨rfl, hb⟩
                  replace H0 := Lib.hid (H0.out.trans (hb.mono H0.out.size))
                  replace HX := Lib.hid (HX.out.below hb)
                  replace HY := Lib.hid (HY.out.below hb)
                  clear hb
                  go_wp2_with fail
                  refine (cmp_nat HY.out HX.out (0) (ordN_eq rfl).symm).mono ?_
                  rintro e w10 ⟨rfl, hb⟩
                  replace H0 := Lib.hid (H0.out.trans (hb.mono H0.out.size))
                  clear hb
                  go_wp2_with fail
                  go_ret
                  exact ⟨rfl, H0.out⟩
                · have HGT := Lib.hid hgt
                  clear hgt
                  refine (sub_nat HX.out HY.out t0.out (by have := HGT.out; omega)).mono ?_
                  rintro e w8 ⟨⟨v8, rfl, hd⟩, hb⟩
                  clear hd
                  replace H0 := Lib.hid (H0.out.trans (hb.mono H0.out.size))
                  replace HX := Lib.hid (HX.out.below hb)
                  replace HY := Lib.hid (HY.out.below hb)
                  clear hb
                  go_wp2_with fail
                  refine (cmp_nat HX.out HY.out (1) (ordN_gt HGT.out).symm).mono ?_
                  rintro e w9 ⟨rfl, hb⟩
                  replace H0 := Lib.hid (H0.out.trans (hb.mono H0.out.size))
                  replace HX := Lib.hid (HX.out.below hb)
                  replace HY := Lib.hid (HY.out.below hb)
                  clear hb
                  go_wp2_with fail
                  refine (cmp_nat HY.out HX.out (-1) (ordN_lt HGT.out).symm).mono ?_
                  rintro e w10 ⟨rfl, hb⟩
                  replace H0 := Lib.hid (H0.out.trans (hb.mono H0.out.size))
                  clear hb
                  go_wp2_with fail
                  go_ret
                  exact ⟨rfl, H0.out⟩
              · have hcbk : ¬ cb = 0 := by omega
                go_wp2_with fail
                refine HRD.out.mono ?_
                rintro e w6 ⟨hr, hb⟩
                rw [cutR_small ht.out] at hr
                obtain ⟨v6, rfl, hz6⟩ := hr
                obtain ⟨ua, un, uc, rfl, hun, hz6⟩ := hz6.slice
                replace H0 := Lib.hid (H0.out.trans (hb.mono H0.out.size))
                replace HX := Lib.hid (HX.out.below hb)
                replace HY := Lib.hid (HY.out.below hb)
                replace HB := Lib.hid (HB.out.below hb)
                have HU := Lib.hid (NatC.of hz6)
                have hun8 : un ≤ 4398046511104 := by have := (natB_length (b := 4294967296) (by decide) (valB 256 B.reverse) 256).2 ht.out; rw [hun]; exact Nat.le_trans this (by decide)
                clear hb hz6 hun
                have HSB : Hid (Reads .u8 w6 (some ad) 0 cb (B.drop 0)) := Lib.hid (by rw [hBe.out]; exact Reads.empty _ _ _ HB.out.max (fun h => by cases h))
                have hBd : Hid (Byt (B.drop 0)) := fun x hx => HBy.out x (List.mem_of_mem_drop hx)
                have hbyt := bytes_nat (show NatAt w6.drew _ _ from NatAt.drewN HU.out.at 1) hun8
                rw [show natB 256 (valB 256 B.reverse) = bareN B.reverse from (bareN_eq (by decide) (fun x hx => HBy.out x (List.mem_reverse.1 hx))).symm, hld.out] at hbyt
                have HBYT := Lib.hid hbyt
                clear hbyt
                obtain ⟨S, hS⟩ : ∃ S, strOf (u8s (B.drop 0)) = S := ⟨_, rfl⟩
                have hsd : Hid (Reads .u8 w6.drew _ _ _ (B.drop 0)) := HSB.out.drewN 1
                have kb0 := conv8 hsd.out hBd.out
                rw [hS] at kb0
                have HS := Lib.hid hS
                clear hS
                go_wp2_with fail
                refine wp_region_held_drew (S := fun W => (convert 24 9 (.slice (some ad) 0 cb)).run Try.prog W = .ok (.string S) W) (by kernel_rfl) kb0 (fun hHeld => ?_)
                refine' wpAnyH_take (i := 0) (oi := _) (v := _) rfl (by kernel_rfl) (by kernel_rfl) (by kernel_rfl) (fun _ _ _ h => h) (Or.inl ⟨?_, ?_⟩) (by assumption) ?_
                rotate_left
                all_goals (try simp only [List.getElem_toArray, List.getElem_cons_succ, List.getElem_cons_zero])
                · rfl
                · intro W hSw; (try dsimp only at hSw); go_simp; (try with_reducible rfl)
                try simp only [Act.put, List.setIfInBounds_toArray, List.set_cons_zero, List.set_cons_succ]
                refine' wpAnyH_take (i := 1) (oi := _) (v := _) rfl (by kernel_rfl) (by kernel_rfl) (by kernel_rfl) (fun _ _ _ h => h) (Or.inl ⟨?_, ?_⟩) (by assumption) ?_
                rotate_left
                all_goals (try simp only [List.getElem_toArray, List.getElem_cons_succ, List.getElem_cons_zero])
                · rfl
                · intro W hSw; (try dsimp only at hSw); go_simp; (try with_reducible rfl)
                try simp only [Act.put, List.setIfInBounds_toArray, List.set_cons_zero, List.set_cons_succ]
                refine' wpAnyH_take (i := 2) (oi := _) (v := _) rfl (by kernel_rfl) (by kernel_rfl) (by kernel_rfl) (fun _ _ _ h => h) (Or.inl ⟨?_, ?_⟩) (by assumption) ?_
                rotate_left
                all_goals (try simp only [List.getElem_toArray, List.getElem_cons_succ, List.getElem_cons_zero])
                · rfl
                · intro W hSw; (try dsimp only at hSw); go_simp; (try with_reducible rfl)
                try simp only [Act.put, List.setIfInBounds_toArray, List.set_cons_zero, List.set_cons_succ]
                refine' wpAnyH_take (i := 3) (oi := _) (v := _) rfl (by kernel_rfl) (by kernel_rfl) (by kernel_rfl) (fun _ _ _ h => h) (Or.inl ⟨?_, ?_⟩) (by assumption) ?_
                rotate_left
                all_goals (try simp only [List.getElem_toArray, List.getElem_cons_succ, List.getElem_cons_zero])
                · rfl
                · intro W hSw; (try dsimp only at hSw); go_simp; (try with_reducible rfl)
                try simp only [Act.put, List.setIfInBounds_toArray, List.set_cons_zero, List.set_cons_succ]
                refine' wpAnyH_take (i := 6) (oi := _) (v := _) rfl (by kernel_rfl) (by kernel_rfl) (by kernel_rfl) (fun _ _ _ h => h) (Or.inl ⟨?_, ?_⟩) (by assumption) ?_
                rotate_left
                all_goals (try simp only [List.getElem_toArray, List.getElem_cons_succ, List.getElem_cons_zero])
                · rfl
                · intro W hSw; (try dsimp only at hSw); go_simp; (try with_reducible rfl)
                try simp only [Act.put, List.setIfInBounds_toArray, List.set_cons_zero, List.set_cons_succ]
                refine' wpAnyH_take (i := 7) (oi := _) (v := _) rfl (by kernel_rfl) (by kernel_rfl) (by kernel_rfl) (fun _ _ _ h => h) (Or.inl ⟨?_, ?_⟩) (by assumption) ?_
                rotate_left
                all_goals (try simp only [List.getElem_toArray, List.getElem_cons_succ, List.getElem_cons_zero])
                · rfl
                · intro W hSw; (try dsimp only at hSw); go_simp; (try with_reducible rfl)
                try simp only [Act.put, List.setIfInBounds_toArray, List.set_cons_zero, List.set_cons_succ]
                refine' wpAnyH_take (i := 8) (oi := _) (v := _) rfl (by kernel_rfl) (by kernel_rfl) (by kernel_rfl) (fun _ _ _ h => h) (Or.inl ⟨?_, ?_⟩) (by assumption) ?_
                rotate_left
                all_goals (try simp only [List.getElem_toArray, List.getElem_cons_succ, List.getElem_cons_zero])
                · rfl
                · intro W hSw; (try dsimp only at hSw); go_simp; (try with_reducible rfl)
                try simp only [Act.put, List.setIfInBounds_toArray, List.set_cons_zero, List.set_cons_succ]
                refine' wpAnyH_take (i := 9) (oi := _) (v := _) rfl (by kernel_rfl) (by kernel_rfl) (by kernel_rfl) (fun _ _ _ h => h) (Or.inl ⟨?_, ?_⟩) (by assumption) ?_
                rotate_left
                all_goals (try simp only [List.getElem_toArray, List.getElem_cons_succ, List.getElem_cons_zero])
                · rfl
                · intro W hSw; (try dsimp only at hSw); go_simp; (try with_reducible rfl)
                try simp only [Act.put, List.setIfInBounds_toArray, List.set_cons_zero, List.set_cons_succ]
                refine wpAnyH_ready (rs := [4]) (by kernel_rfl) (by simp) ?_
                refine AllReadyH.cons (o := _) rfl (fun K hK => ?_) AllReadyH.nil
                try simp only [List.getElem_toArray, List.getElem_cons_succ, List.getElem_cons_zero]
                go_simp
                refine HBYT.out.mono ?_
                rintro e w7 ⟨⟨v7, rfl, ho7⟩, hb7⟩
                obtain ⟨a7, n7, c7, rfl, hn7, ho7⟩ := ho7.slice
                have kb1 := conv8 ho7.reads hBd.out
                have kb2 := conv8 (hsd.out.below hb7) hBd.out
                rw [HS.out] at kb1 kb2
                have HB7 := Lib.hid hb7
                clear ho7 hb7 hn7
                go_wp2_with fail
                refine hK.out _ _ kb2 (fun hHeld => ?_)
                clear hK K
                try simp only [Act.put, List.setIfInBounds_toArray, List.set_cons_zero, List.set_cons_succ]
                refine wpAnyH_ready (rs := [5]) (by kernel_rfl) (by simp) ?_
                refine AllReadyH.cons (o := _) rfl (fun K hK => ?_) AllReadyH.nil
                try simp only [List.getElem_toArray, List.getElem_cons_succ, List.getElem_cons_zero]
                go_simp
                refine hK.out _ _ kb2 (fun hHeld => ?_)
                clear hK K
                try simp only [Act.put, List.setIfInBounds_toArray, List.set_cons_zero, List.set_cons_succ]
                refine' wpAnyH_take (i := 10) (oi := _) (v := _) rfl (by kernel_rfl) (by kernel_rfl) (by kernel_rfl) (fun _ _ _ h => h) (Or.inl ⟨?_, ?_⟩) (by assumption) ?_
                rotate_left
                all_goals (try simp only [List.getElem_toArray, List.getElem_cons_succ, List.getElem_cons_zero])
                · rfl
                · intro W hSw; (try dsimp only at hSw); go_simp; (try with_reducible rfl)
                try simp only [Act.put, List.setIfInBounds_toArray, List.set_cons_zero, List.set_cons_succ]
                refine' wpAnyH_take (i := 11) (oi := _) (v := _) rfl (by kernel_rfl) (by kernel_rfl) (by kernel_rfl) (fun _ _ _ h => h) (Or.inl ⟨?_, ?_⟩) (by assumption) ?_
                rotate_left
                all_goals (try simp only [List.getElem_toArray, List.getElem_cons_succ, List.getElem_cons_zero])
                · rfl
                · intro W hSw; (try dsimp only at hSw); go_simp; (try with_reducible rfl)
                try simp only [Act.put, List.setIfInBounds_toArray, List.set_cons_zero, List.set_cons_succ]
                refine wpAnyH_done (by kernel_rfl) ?_ _
                have hb := ((Below.refl w6.heap.size w6).drew).trans HB7.out
                replace H0 := Lib.hid (H0.out.trans (hb.mono H0.out.size))
                replace HX := Lib.hid (HX.out.below hb)
                replace HY := Lib.hid (HY.out.below hb)
                clear hb kb0 kb1 kb2
                go_wp2_with fail
                rcases Nat.lt_trichotomy n m with hlt | heq | hgt
                · have HLT := Lib.hid hlt
                  clear hlt
                  refine (sub_less HX.out HY.out (fun h => by have := HLT.out; omega)).mono ?_
                  rintro e w8 ⟨⟨v8, rfl⟩, hb⟩
                  replace H0 := Lib.hid (H0.out.trans (hb.mono H0.out.size))
                  replace HX := Lib.hid (HX.out.below hb)
                  replace HY := Lib.hid (HY.out.below hb)
                  clear hb
                  go_wp2_with fail
                  refine (cmp_nat HX.out HY.out (-1) (ordN_lt HLT.out).symm).mono ?_
                  rintro e w9 ⟨rfl, hb⟩
                  replace H0 := Lib.hid (H0.out.trans (hb.mono H0.out.size))
                  replace HX := Lib.hid (HX.out.below hb)
                  replace HY := Lib.hid (HY.out.below hb)
                  clear hb
                  go_wp2_with fail
                  refine (cmp_nat HY.out HX.out (1) (ordN_gt HLT.out).symm).mono ?_
                  rintro e w10 ⟨rfl, hb⟩
                  replace H0 := Lib.hid (H0.out.trans (hb.mono H0.out.size))
                  clear hb
                  go_wp2_with fail
                  go_ret
                  exact ⟨rfl, H0.out⟩
                · subst heq
                  refine (sub_nat HX.out HY.out t0.out (Nat.le_refl _)).mono ?_
                  rintro e w8 ⟨⟨v8, rfl, hd⟩, hb⟩
                  obtain ⟨da, dn, dc, rfl, hdr⟩ := hd
                  obtain rfl : dn = 0 := by rw [← hdr.length, Nat.sub_self, show nat32 0 = [] from natB_zero _]; rfl
                  clear hdr
                  replace H0 := Lib.hid (H0.out.trans (hb.mono H0.out.size))
                  replace HX := Lib.hid (HX.out.below hb)
                  replace HY := Lib.hid (HY.out.below hb)
                  clear hb
                  go_wp2_with fail
                  refine (cmp_nat HX.out HY.out (0) (ordN_eq rfl).symm).mono ?_
                  rintro e w9 ⟨rfl, hb⟩
                  replace H0 := Lib.hid (H0.out.trans (hb.mono H0.out.size))
                  replace HX := Lib.hid (HX.out.below hb)
                  replace HY := Lib.hid (HY.out.below hb)
                  clear hb
                  go_wp2_with fail
                  refine (cmp_nat HY.out HX.out (0) (ordN_eq rfl).symm).mono ?_
                  rintro e w10 ⟨rfl, hb⟩
                  replace H0 := Lib.hid (H0.out.trans (hb.mono H0.out.size))
                  clear hb
                  go_wp2_with fail
                  go_ret
                  exact ⟨rfl, H0.out⟩
                · have HGT := Lib.hid hgt
                  clear hgt
                  refine (sub_nat HX.out HY.out t0.out (by have := HGT.out; omega)).mono ?_
                  rintro e w8 ⟨⟨v8, rfl, hd⟩, hb⟩
                  clear hd
                  replace H0 := Lib.hid (H0.out.trans (hb.mono H0.out.size))
                  replace HX := Lib.hid (HX.out.below hb)
                  replace HY := Lib.hid (HY.out.below hb)
                  clear hb
                  go_wp2_with fail
                  refine (cmp_nat HX.out HY.out (1) (ordN_gt HGT.out).symm).mono ?_
                  rintro e w9 ⟨rfl, hb⟩
                  replace H0 := Lib.hid (H0.out.trans (hb.mono H0.out.size))
                  replace HX := Lib.hid (HX.out.below hb)
                  replace HY := Lib.hid (HY.out.below hb)
                  clear hb
                  go_wp2_with fail
                  refine (cmp_nat HY.out HX.out (-1) (ordN_lt HGT.out).symm).mono ?_
                  rintro e w10 ⟨rfl, hb⟩
                  replace H0 := Lib.hid (H0.out.trans (hb.mono H0.out.size))
                  clear hb
                  go_wp2_with fail
                  go_ret
                  exact ⟨rfl, H0.out⟩
          · obtain ⟨bo2, off2, rfl, _, _⟩ := HB.out.cells (by omega)
            clear hex
            obtain rfl := hz
            by_cases hcbk : cb = k
            · subst hcbk
              go_wp2_with fail
              refine HRD.out.mono ?_
              rintro e w6 ⟨hr, hb⟩
              rw [cutR_small ht.out] at hr
              obtain ⟨v6, rfl, hz6⟩ := hr
              obtain ⟨ua, un, uc, rfl, hun, hz6⟩ := hz6.slice
              replace H0 := Lib.hid (H0.out.trans (hb.mono H0.out.size))
              replace HX := Lib.hid (HX.out.below hb)
              replace HY := Lib.hid (HY.out.below hb)
              replace HB := Lib.hid (HB.out.below hb)
              have HU := Lib.hid (NatC.of hz6)
              have hun8 : un ≤ 4398046511104 := by have := (natB_length (b := 4294967296) (by decide) (valB 256 B.reverse) 256).2 ht.out; rw [hun]; exact Nat.le_trans this (by decide)
              clear hb hz6 hun
              have HSB : Hid (Reads .u8 w6 (some ⟨bo2, off2, none⟩) 0 0 (B.drop cb)) := Lib.hid (by rw [List.drop_eq_nil_of_le (by rw [HB.out.length]; exact Nat.le_refl _)]; exact Reads.empty _ _ _ (by unfold maxLen; omega) (fun h => by cases h))
              have hBd : Hid (Byt (B.drop cb)) := fun x hx => HBy.out x (List.mem_of_mem_drop hx)
              have hbyt := bytes_nat (show NatAt w6.drew _ _ from NatAt.drewN HU.out.at 1) hun8
              rw [show natB 256 (valB 256 B.reverse) = bareN B.reverse from (bareN_eq (by decide) (fun x hx => HBy.out x (List.mem_reverse.1 hx))).symm, hld.out] at hbyt
              have HBYT := Lib.hid hbyt
              clear hbyt
              obtain ⟨S, hS⟩ : ∃ S, strOf (u8s (B.drop cb)) = S := ⟨_, rfl⟩
              have hsd : Hid (Reads .u8 w6.drew _ _ _ (B.drop cb)) := HSB.out.drewN 1
              have kb0 := conv8 hsd.out hBd.out
              rw [hS] at kb0
              have HS := Lib.hid hS
              clear hS
              go_wp2_with fail
              refine wp_region_held_drew (S := fun W => (convert 24 9 (.slice (some ⟨bo2, off2, none⟩) 0 0)).run Try.prog W = .ok (.string S) W) (by kernel_rfl) kb0 (fun hHeld => ?_)
              refine' wpAnyH_take (i := 0) (oi := _) (v := _) rfl (by kernel_rfl) (by kernel_rfl) (by kernel_rfl) (fun _ _ _ h => h) (Or.inl ⟨?_, ?_⟩) (by assumption) ?_
              rotate_left
              all_goals (try simp only [List.getElem_toArray, List.getElem_cons_succ, List.getElem_cons_zero])
              · rfl
              · intro W hSw; (try dsimp only at hSw); go_simp; (try with_reducible rfl)
              try simp only [Act.put, List.setIfInBounds_toArray, List.set_cons_zero, List.set_cons_succ]
              refine' wpAnyH_take (i := 1) (oi := _) (v := _) rfl (by kernel_rfl) (by kernel_rfl) (by kernel_rfl) (fun _ _ _ h => h) (Or.inl ⟨?_, ?_⟩) (by assumption) ?_
              rotate_left
              all_goals (try simp only [List.getElem_toArray, List.getElem_cons_succ, List.getElem_cons_zero])
              · rfl
              · intro W hSw; (try dsimp only at hSw); go_simp; (try with_reducible rfl)
              try simp only [Act.put, List.setIfInBounds_toArray, List.set_cons_zero, List.set_cons_succ]
              refine' wpAnyH_take (i := 2) (oi := _) (v := _) rfl (by kernel_rfl) (by kernel_rfl) (by kernel_rfl) (fun _ _ _ h => h) (Or.inl ⟨?_, ?_⟩) (by assumption) ?_
              rotate_left
              all_goals (try simp only [List.getElem_toArray, List.getElem_cons_succ, List.getElem_cons_zero])
              · rfl
              · intro W hSw; (try dsimp only at hSw); go_simp; (try with_reducible rfl)
              try simp only [Act.put, List.setIfInBounds_toArray, List.set_cons_zero, List.set_cons_succ]
              refine' wpAnyH_take (i := 3) (oi := _) (v := _) rfl (by kernel_rfl) (by kernel_rfl) (by kernel_rfl) (fun _ _ _ h => h) (Or.inl ⟨?_, ?_⟩) (by assumption) ?_
              rotate_left
              all_goals (try simp only [List.getElem_toArray, List.getElem_cons_succ, List.getElem_cons_zero])
              · rfl
              · intro W hSw; (try dsimp only at hSw); go_simp; (try with_reducible rfl)
              try simp only [Act.put, List.setIfInBounds_toArray, List.set_cons_zero, List.set_cons_succ]
              refine' wpAnyH_take (i := 6) (oi := _) (v := _) rfl (by kernel_rfl) (by kernel_rfl) (by kernel_rfl) (fun _ _ _ h => h) (Or.inl ⟨?_, ?_⟩) (by assumption) ?_
              rotate_left
              all_goals (try simp only [List.getElem_toArray, List.getElem_cons_succ, List.getElem_cons_zero])
              · rfl
              · intro W hSw; (try dsimp only at hSw); go_simp; (try with_reducible rfl)
              try simp only [Act.put, List.setIfInBounds_toArray, List.set_cons_zero, List.set_cons_succ]
              refine' wpAnyH_take (i := 7) (oi := _) (v := _) rfl (by kernel_rfl) (by kernel_rfl) (by kernel_rfl) (fun _ _ _ h => h) (Or.inl ⟨?_, ?_⟩) (by assumption) ?_
              rotate_left
              all_goals (try simp only [List.getElem_toArray, List.getElem_cons_succ, List.getElem_cons_zero])
              · rfl
              · intro W hSw; (try dsimp only at hSw); go_simp; (try with_reducible rfl)
              try simp only [Act.put, List.setIfInBounds_toArray, List.set_cons_zero, List.set_cons_succ]
              refine' wpAnyH_take (i := 8) (oi := _) (v := _) rfl (by kernel_rfl) (by kernel_rfl) (by kernel_rfl) (fun _ _ _ h => h) (Or.inl ⟨?_, ?_⟩) (by assumption) ?_
              rotate_left
              all_goals (try simp only [List.getElem_toArray, List.getElem_cons_succ, List.getElem_cons_zero])
              · rfl
              · intro W hSw; (try dsimp only at hSw); go_simp; (try with_reducible rfl)
              try simp only [Act.put, List.setIfInBounds_toArray, List.set_cons_zero, List.set_cons_succ]
              refine' wpAnyH_take (i := 9) (oi := _) (v := _) rfl (by kernel_rfl) (by kernel_rfl) (by kernel_rfl) (fun _ _ _ h => h) (Or.inl ⟨?_, ?_⟩) (by assumption) ?_
              rotate_left
              all_goals (try simp only [List.getElem_toArray, List.getElem_cons_succ, List.getElem_cons_zero])
              · rfl
              · intro W hSw; (try dsimp only at hSw); go_simp; (try with_reducible rfl)
              try simp only [Act.put, List.setIfInBounds_toArray, List.set_cons_zero, List.set_cons_succ]
              refine wpAnyH_ready (rs := [4]) (by kernel_rfl) (by simp) ?_
              refine AllReadyH.cons (o := _) rfl (fun K hK => ?_) AllReadyH.nil
              try simp only [List.getElem_toArray, List.getElem_cons_succ, List.getElem_cons_zero]
              go_simp
              refine HBYT.out.mono ?_
              rintro e w7 ⟨⟨v7, rfl, ho7⟩, hb7⟩
              obtain ⟨a7, n7, c7, rfl, hn7, ho7⟩ := ho7.slice
              have kb1 := conv8 ho7.reads hBd.out
              have kb2 := conv8 (hsd.out.below hb7) hBd.out
              rw [HS.out] at kb1 kb2
              have HB7 := Lib.hid hb7
              clear ho7 hb7 hn7
              go_wp2_with fail
              refine hK.out _ _ kb2 (fun hHeld => ?_)
              clear hK K
              try simp only [Act.put, List.setIfInBounds_toArray, List.set_cons_zero, List.set_cons_succ]
              refine wpAnyH_ready (rs := [5]) (by kernel_rfl) (by simp) ?_
              refine AllReadyH.cons (o := _) rfl (fun K hK => ?_) AllReadyH.nil
              try simp only [List.getElem_toArray, List.getElem_cons_succ, List.getElem_cons_zero]
              go_simp
              refine hK.out _ _ kb2 (fun hHeld => ?_)
              clear hK K
              try simp only [Act.put, List.setIfInBounds_toArray, List.set_cons_zero, List.set_cons_succ]
              refine' wpAnyH_take (i := 10) (oi := _) (v := _) rfl (by kernel_rfl) (by kernel_rfl) (by kernel_rfl) (fun _ _ _ h => h) (Or.inl ⟨?_, ?_⟩) (by assumption) ?_
              rotate_left
              all_goals (try simp only [List.getElem_toArray, List.getElem_cons_succ, List.getElem_cons_zero])
              · rfl
              · intro W hSw; (try dsimp only at hSw); go_simp; (try with_reducible rfl)
              try simp only [Act.put, List.setIfInBounds_toArray, List.set_cons_zero, List.set_cons_succ]
              refine' wpAnyH_take (i := 11) (oi := _) (v := _) rfl (by kernel_rfl) (by kernel_rfl) (by kernel_rfl) (fun _ _ _ h => h) (Or.inl ⟨?_, ?_⟩) (by assumption) ?_
              rotate_left
              all_goals (try simp only [List.getElem_toArray, List.getElem_cons_succ, List.getElem_cons_zero])
              · rfl
              · intro W hSw; (try dsimp only at hSw); go_simp; (try with_reducible rfl)
              try simp only [Act.put, List.setIfInBounds_toArray, List.set_cons_zero, List.set_cons_succ]
              refine wpAnyH_done (by kernel_rfl) ?_ _
              have hb := ((Below.refl w6.heap.size w6).drew).trans HB7.out
              replace H0 := Lib.hid (H0.out.trans (hb.mono H0.out.size))
              replace HX := Lib.hid (HX.out.below hb)
              replace HY := Lib.hid (HY.out.below hb)
              clear hb kb0 kb1 kb2
              go_wp2_with fail
              rcases Nat.lt_trichotomy n m with hlt | heq | hgt
              · have HLT := Lib.hid hlt
                clear hlt
                refine (sub_less HX.out HY.out (fun h => by have := HLT.out; omega)).mono ?_
                rintro e w8 ⟨⟨v8, rfl⟩, hb⟩
                replace H0 := Lib.hid (H0.out.trans (hb.mono H0.out.size))
                replace HX := Lib.hid (HX.out.below hb)
                replace HY := Lib.hid (HY.out.below hb)
                clear hb
                go_wp2_with fail
                refine (cmp_nat HX.out HY.out (-1) (ordN_lt HLT.out).symm).mono ?_
                rintro e w9 ⟨rfl, hb⟩
                replace H0 := Lib.hid (H0.out.trans (hb.mono H0.out.size))
                replace HX := Lib.hid (HX.out.below hb)
                replace HY := Lib.hid (HY.out.below hb)
                clear hb
                go_wp2_with fail
                refine (cmp_nat HY.out HX.out (1) (ordN_gt HLT.out).symm).mono ?_
                rintro e w10 ⟨rfl, hb⟩
                replace H0 := Lib.hid (H0.out.trans (hb.mono H0.out.size))
                clear hb
                go_wp2_with fail
                go_ret
                exact ⟨rfl, H0.out⟩
              · subst heq
                refine (sub_nat HX.out HY.out t0.out (Nat.le_refl _)).mono ?_
                rintro e w8 ⟨⟨v8, rfl, hd⟩, hb⟩
                obtain ⟨da, dn, dc, rfl, hdr⟩ := hd
                obtain rfl : dn = 0 := by rw [← hdr.length, Nat.sub_self, show nat32 0 = [] from natB_zero _]; rfl
                clear hdr
                replace H0 := Lib.hid (H0.out.trans (hb.mono H0.out.size))
                replace HX := Lib.hid (HX.out.below hb)
                replace HY := Lib.hid (HY.out.below hb)
                clear hb
                go_wp2_with fail
                refine (cmp_nat HX.out HY.out (0) (ordN_eq rfl).symm).mono ?_
                rintro e w9 ⟨rfl, hb⟩
                replace H0 := Lib.hid (H0.out.trans (hb.mono H0.out.size))
                replace HX := Lib.hid (HX.out.below hb)
                replace HY := Lib.hid (HY.out.below hb)
                clear hb
                go_wp2_with fail
                refine (cmp_nat HY.out HX.out (0) (ordN_eq rfl).symm).mono ?_
                rintro e w10 ⟨rfl, hb⟩
                replace H0 := Lib.hid (H0.out.trans (hb.mono H0.out.size))
                clear hb
                go_wp2_with fail
                go_ret
                exact ⟨rfl, H0.out⟩
              · have HGT := Lib.hid hgt
                clear hgt
                refine (sub_nat HX.out HY.out t0.out (by have := HGT.out; omega)).mono ?_
                rintro e w8 ⟨⟨v8, rfl, hd⟩, hb⟩
                clear hd
                replace H0 := Lib.hid (H0.out.trans (hb.mono H0.out.size))
                replace HX := Lib.hid (HX.out.below hb)
                replace HY := Lib.hid (HY.out.below hb)
                clear hb
                go_wp2_with fail
                refine (cmp_nat HX.out HY.out (1) (ordN_gt HGT.out).symm).mono ?_
                rintro e w9 ⟨rfl, hb⟩
                replace H0 := Lib.hid (H0.out.trans (hb.mono H0.out.size))
                replace HX := Lib.hid (HX.out.below hb)
                replace HY := Lib.hid (HY.out.below hb)
                clear hb
                go_wp2_with fail
                refine (cmp_nat HY.out HX.out (-1) (ordN_lt HGT.out).symm).mono ?_
                rintro e w10 ⟨rfl, hb⟩
                replace H0 := Lib.hid (H0.out.trans (hb.mono H0.out.size))
                clear hb
                go_wp2_with fail
                go_ret
                exact ⟨rfl, H0.out⟩
            · go_wp2_with fail
              refine HRD.out.mono ?_
              rintro e w6 ⟨hr, hb⟩
              rw [cutR_small ht.out] at hr
              obtain ⟨v6, rfl, hz6⟩ := hr
              obtain ⟨ua, un, uc, rfl, hun, hz6⟩ := hz6.slice
              replace H0 := Lib.hid (H0.out.trans (hb.mono H0.out.size))
              replace HX := Lib.hid (HX.out.below hb)
              replace HY := Lib.hid (HY.out.below hb)
              replace HB := Lib.hid (HB.out.below hb)
              have HU := Lib.hid (NatC.of hz6)
              have hun8 : un ≤ 4398046511104 := by have := (natB_length (b := 4294967296) (by decide) (valB 256 B.reverse) 256).2 ht.out; rw [hun]; exact Nat.le_trans this (by decide)
              clear hb hz6 hun
              have HSB : Hid (Reads .u8 w6 (some ⟨bo2, off2 + k, none⟩) 0 (cb - k) (B.drop k)) := Lib.hid (by rw [List.drop_eq_nil_of_le (by rw [HB.out.length]; exact Nat.le_refl _)]; exact Reads.empty _ _ _ (by have := HB.out.max; omega) (fun h => by cases h))
              have hBd : Hid (Byt (B.drop k)) := fun x hx => HBy.out x (List.mem_of_mem_drop hx)
              have hbyt := bytes_nat (show NatAt w6.drew _ _ from NatAt.drewN HU.out.at 1) hun8
              rw [show natB 256 (valB 256 B.reverse) = bareN B.reverse from (bareN_eq (by decide) (fun x hx => HBy.out x (List.mem_reverse.1 hx))).symm, hld.out] at hbyt
              have HBYT := Lib.hid hbyt
              clear hbyt
              obtain ⟨S, hS⟩ : ∃ S, strOf (u8s (B.drop k)) = S := ⟨_, rfl⟩
              have hsd : Hid (Reads .u8 w6.drew _ _ _ (B.drop k)) := HSB.out.drewN 1
              have kb0 := conv8 hsd.out hBd.out
              rw [hS] at kb0
              have HS := Lib.hid hS
              clear hS
              go_wp2_with fail
              refine wp_region_held_drew (S := fun W => (convert 24 9 (.slice (some ⟨bo2, off2 + k, none⟩) 0 (cb - k))).run Try.prog W = .ok (.string S) W) (by kernel_rfl) kb0 (fun hHeld => ?_)
              refine' wpAnyH_take (i := 0) (oi := _) (v := _) rfl (by kernel_rfl) (by kernel_rfl) (by kernel_rfl) (fun _ _ _ h => h) (Or.inl ⟨?_, ?_⟩) (by assumption) ?_
              rotate_left
              all_goals (try simp only [List.getElem_toArray, List.getElem_cons_succ, List.getElem_cons_zero])
              · rfl
              · intro W hSw; (try dsimp only at hSw); go_simp; (try with_reducible rfl)
              try simp only [Act.put, List.setIfInBounds_toArray, List.set_cons_zero, List.set_cons_succ]
              refine' wpAnyH_take (i := 1) (oi := _) (v := _) rfl (by kernel_rfl) (by kernel_rfl) (by kernel_rfl) (fun _ _ _ h => h) (Or.inl ⟨?_, ?_⟩) (by assumption) ?_
              rotate_left
              all_goals (try simp only [List.getElem_toArray, List.getElem_cons_succ, List.getElem_cons_zero])
              · rfl
              · intro W hSw; (try dsimp only at hSw); go_simp; (try with_reducible rfl)
              try simp only [Act.put, List.setIfInBounds_toArray, List.set_cons_zero, List.set_cons_succ]
              refine' wpAnyH_take (i := 2) (oi := _) (v := _) rfl (by kernel_rfl) (by kernel_rfl) (by kernel_rfl) (fun _ _ _ h => h) (Or.inl ⟨?_, ?_⟩) (by assumption) ?_
              rotate_left
              all_goals (try simp only [List.getElem_toArray, List.getElem_cons_succ, List.getElem_cons_zero])
              · rfl
              · intro W hSw; (try dsimp only at hSw); go_simp; (try with_reducible rfl)
              try simp only [Act.put, List.setIfInBounds_toArray, List.set_cons_zero, List.set_cons_succ]
              refine' wpAnyH_take (i := 3) (oi := _) (v := _) rfl (by kernel_rfl) (by kernel_rfl) (by kernel_rfl) (fun _ _ _ h => h) (Or.inl ⟨?_, ?_⟩) (by assumption) ?_
              rotate_left
              all_goals (try simp only [List.getElem_toArray, List.getElem_cons_succ, List.getElem_cons_zero])
              · rfl
              · intro W hSw; (try dsimp only at hSw); go_simp; (try with_reducible rfl)
              try simp only [Act.put, List.setIfInBounds_toArray, List.set_cons_zero, List.set_cons_succ]
              refine' wpAnyH_take (i := 6) (oi := _) (v := _) rfl (by kernel_rfl) (by kernel_rfl) (by kernel_rfl) (fun _ _ _ h => h) (Or.inl ⟨?_, ?_⟩) (by assumption) ?_
              rotate_left
              all_goals (try simp only [List.getElem_toArray, List.getElem_cons_succ, List.getElem_cons_zero])
              · rfl
              · intro W hSw; (try dsimp only at hSw); go_simp; (try with_reducible rfl)
              try simp only [Act.put, List.setIfInBounds_toArray, List.set_cons_zero, List.set_cons_succ]
              refine' wpAnyH_take (i := 7) (oi := _) (v := _) rfl (by kernel_rfl) (by kernel_rfl) (by kernel_rfl) (fun _ _ _ h => h) (Or.inl ⟨?_, ?_⟩) (by assumption) ?_
              rotate_left
              all_goals (try simp only [List.getElem_toArray, List.getElem_cons_succ, List.getElem_cons_zero])
              · rfl
              · intro W hSw; (try dsimp only at hSw); go_simp; (try with_reducible rfl)
              try simp only [Act.put, List.setIfInBounds_toArray, List.set_cons_zero, List.set_cons_succ]
              refine' wpAnyH_take (i := 8) (oi := _) (v := _) rfl (by kernel_rfl) (by kernel_rfl) (by kernel_rfl) (fun _ _ _ h => h) (Or.inl ⟨?_, ?_⟩) (by assumption) ?_
              rotate_left
              all_goals (try simp only [List.getElem_toArray, List.getElem_cons_succ, List.getElem_cons_zero])
              · rfl
              · intro W hSw; (try dsimp only at hSw); go_simp; (try with_reducible rfl)
              try simp only [Act.put, List.setIfInBounds_toArray, List.set_cons_zero, List.set_cons_succ]
              refine' wpAnyH_take (i := 9) (oi := _) (v := _) rfl (by kernel_rfl) (by kernel_rfl) (by kernel_rfl) (fun _ _ _ h => h) (Or.inl ⟨?_, ?_⟩) (by assumption) ?_
              rotate_left
              all_goals (try simp only [List.getElem_toArray, List.getElem_cons_succ, List.getElem_cons_zero])
              · rfl
              · intro W hSw; (try dsimp only at hSw); go_simp; (try with_reducible rfl)
              try simp only [Act.put, List.setIfInBounds_toArray, List.set_cons_zero, List.set_cons_succ]
              refine wpAnyH_ready (rs := [4]) (by kernel_rfl) (by simp) ?_
              refine AllReadyH.cons (o := _) rfl (fun K hK => ?_) AllReadyH.nil
              try simp only [List.getElem_toArray, List.getElem_cons_succ, List.getElem_cons_zero]
              go_simp
              refine HBYT.out.mono ?_
              rintro e w7 ⟨⟨v7, rfl, ho7⟩, hb7⟩
              obtain ⟨a7, n7, c7, rfl, hn7, ho7⟩ := ho7.slice
              have kb1 := conv8 ho7.reads hBd.out
              have kb2 := conv8 (hsd.out.below hb7) hBd.out
              rw [HS.out] at kb1 kb2
              have HB7 := Lib.hid hb7
              clear ho7 hb7 hn7
              go_wp2_with fail
              refine hK.out _ _ kb2 (fun hHeld => ?_)
              clear hK K
              try simp only [Act.put, List.setIfInBounds_toArray, List.set_cons_zero, List.set_cons_succ]
              refine wpAnyH_ready (rs := [5]) (by kernel_rfl) (by simp) ?_
              refine AllReadyH.cons (o := _) rfl (fun K hK => ?_) AllReadyH.nil
              try simp only [List.getElem_toArray, List.getElem_cons_succ, List.getElem_cons_zero]
              go_simp
              refine hK.out _ _ kb2 (fun hHeld => ?_)
              clear hK K
              try simp only [Act.put, List.setIfInBounds_toArray, List.set_cons_zero, List.set_cons_succ]
              refine' wpAnyH_take (i := 10) (oi := _) (v := _) rfl (by kernel_rfl) (by kernel_rfl) (by kernel_rfl) (fun _ _ _ h => h) (Or.inl ⟨?_, ?_⟩) (by assumption) ?_
              rotate_left
              all_goals (try simp only [List.getElem_toArray, List.getElem_cons_succ, List.getElem_cons_zero])
              · rfl
              · intro W hSw; (try dsimp only at hSw); go_simp; (try with_reducible rfl)
              try simp only [Act.put, List.setIfInBounds_toArray, List.set_cons_zero, List.set_cons_succ]
              refine' wpAnyH_take (i := 11) (oi := _) (v := _) rfl (by kernel_rfl) (by kernel_rfl) (by kernel_rfl) (fun _ _ _ h => h) (Or.inl ⟨?_, ?_⟩) (by assumption) ?_
              rotate_left
              all_goals (try simp only [List.getElem_toArray, List.getElem_cons_succ, List.getElem_cons_zero])
              · rfl
              · intro W hSw; (try dsimp only at hSw); go_simp; (try with_reducible rfl)
              try simp only [Act.put, List.setIfInBounds_toArray, List.set_cons_zero, List.set_cons_succ]
              refine wpAnyH_done (by kernel_rfl) ?_ _
              have hb := ((Below.refl w6.heap.size w6).drew).trans HB7.out
              replace H0 := Lib.hid (H0.out.trans (hb.mono H0.out.size))
              replace HX := Lib.hid (HX.out.below hb)
              replace HY := Lib.hid (HY.out.below hb)
              clear hb kb0 kb1 kb2
              go_wp2_with fail
              rcases Nat.lt_trichotomy n m with hlt | heq | hgt
              · have HLT := Lib.hid hlt
                clear hlt
                refine (sub_less HX.out HY.out (fun h => by have := HLT.out; omega)).mono ?_
                rintro e w8 ⟨⟨v8, rfl⟩, hb⟩
                replace H0 := Lib.hid (H0.out.trans (hb.mono H0.out.size))
                replace HX := Lib.hid (HX.out.below hb)
                replace HY := Lib.hid (HY.out.below hb)
                clear hb
                go_wp2_with fail
                refine (cmp_nat HX.out HY.out (-1) (ordN_lt HLT.out).symm).mono ?_
                rintro e w9 ⟨rfl, hb⟩
                replace H0 := Lib.hid (H0.out.trans (hb.mono H0.out.size))
                replace HX := Lib.hid (HX.out.below hb)
                replace HY := Lib.hid (HY.out.below hb)
                clear hb
                go_wp2_with fail
                refine (cmp_nat HY.out HX.out (1) (ordN_gt HLT.out).symm).mono ?_
                rintro e w10 ⟨rfl, hb⟩
                replace H0 := Lib.hid (H0.out.trans (hb.mono H0.out.size))
                clear hb
                go_wp2_with fail
                go_ret
                exact ⟨rfl, H0.out⟩
              · subst heq
                refine (sub_nat HX.out HY.out t0.out (Nat.le_refl _)).mono ?_
                rintro e w8 ⟨⟨v8, rfl, hd⟩, hb⟩
                obtain ⟨da, dn, dc, rfl, hdr⟩ := hd
                obtain rfl : dn = 0 := by rw [← hdr.length, Nat.sub_self, show nat32 0 = [] from natB_zero _]; rfl
                clear hdr
                replace H0 := Lib.hid (H0.out.trans (hb.mono H0.out.size))
                replace HX := Lib.hid (HX.out.below hb)
                replace HY := Lib.hid (HY.out.below hb)
                clear hb
                go_wp2_with fail
                refine (cmp_nat HX.out HY.out (0) (ordN_eq rfl).symm).mono ?_
                rintro e w9 ⟨rfl, hb⟩
                replace H0 := Lib.hid (H0.out.trans (hb.mono H0.out.size))
                replace HX := Lib.hid (HX.out.below hb)
                replace HY := Lib.hid (HY.out.below hb)
                clear hb
                go_wp2_with fail
                refine (cmp_nat HY.out HX.out (0) (ordN_eq rfl).symm).mono ?_
                rintro e w10 ⟨rfl, hb⟩
                replace H0 := Lib.hid (H0.out.trans (hb.mono H0.out.size))
                clear hb
                go_wp2_with fail
                go_ret
                exact ⟨rfl, H0.out⟩
              · have HGT := Lib.hid hgt
                clear hgt
                refine (sub_nat HX.out HY.out t0.out (by have := HGT.out; omega)).mono ?_
                rintro e w8 ⟨⟨v8, rfl, hd⟩, hb⟩
                clear hd
                replace H0 := Lib.hid (H0.out.trans (hb.mono H0.out.size))
                replace HX := Lib.hid (HX.out.below hb)
                replace HY := Lib.hid (HY.out.below hb)
                clear hb
                go_wp2_with fail
                refine (cmp_nat HX.out HY.out (1) (ordN_gt HGT.out).symm).mono ?_
                rintro e w9 ⟨rfl, hb⟩
                replace H0 := Lib.hid (H0.out.trans (hb.mono H0.out.size))
                replace HX := Lib.hid (HX.out.below hb)
                replace HY := Lib.hid (HY.out.below hb)
                clear hb
                go_wp2_with fail
                refine (cmp_nat HY.out HX.out (-1) (ordN_lt HGT.out).symm).mono ?_
                rintro e w10 ⟨rfl, hb⟩
                replace H0 := Lib.hid (H0.out.trans (hb.mono H0.out.size))
                clear hb
                go_wp2_with fail
                go_ret
                exact ⟨rfl, H0.out⟩
        · have hy3 : ((y2 : Int) == 0) = false := by simp; omega
          have hle := HB.out.le
          have hcbk : ¬ cb = k := by omega
          clear hex
          go_wp2_with fail
          refine HRD.out.mono ?_
          rintro e w6 ⟨hr, hb⟩
          rw [cutR_small ht.out] at hr
          obtain ⟨v6, rfl, hz6⟩ := hr
          obtain ⟨ua, un, uc, rfl, hun, hz6⟩ := hz6.slice
          replace H0 := Lib.hid (H0.out.trans (hb.mono H0.out.size))
          replace HX := Lib.hid (HX.out.below hb)
          replace HY := Lib.hid (HY.out.below hb)
          replace HB := Lib.hid (HB.out.below hb)
          have HU := Lib.hid (NatC.of hz6)
          have hun8 : un ≤ 4398046511104 := by have := (natB_length (b := 4294967296) (by decide) (valB 256 B.reverse) 256).2 ht.out; rw [hun]; exact Nat.le_trans this (by decide)
          clear hb hz6 hun
          have HSB := Lib.hid (HB.out.dropN hlt2)
          have hBd : Hid (Byt (B.drop k)) := fun x hx => HBy.out x (List.mem_of_mem_drop hx)
          have hbyt := bytes_nat (show NatAt w6.drew _ _ from NatAt.drewN HU.out.at 1) hun8
          rw [show natB 256 (valB 256 B.reverse) = bareN B.reverse from (bareN_eq (by decide) (fun x hx => HBy.out x (List.mem_reverse.1 hx))).symm, hld.out] at hbyt
          have HBYT := Lib.hid hbyt
          clear hbyt
          obtain ⟨S, hS⟩ : ∃ S, strOf (u8s (B.drop k)) = S := ⟨_, rfl⟩
          have hsd : Hid (Reads .u8 w6.drew _ _ _ (B.drop k)) := HSB.out.drewN 1
          have kb0 := conv8 hsd.out hBd.out
          rw [hS] at kb0
          have HS := Lib.hid hS
          clear hS
          go_wp2_with fail
          refine wp_region_held_drew (S := fun W => (convert 24 9 (.slice (some ⟨bo2, off2 + k, none⟩) (lb - k) (cb - k))).run Try.prog W = .ok (.string S) W) (by kernel_rfl) kb0 (fun hHeld => ?_)
          refine' wpAnyH_take (i := 0) (oi := _) (v := _) rfl (by kernel_rfl) (by kernel_rfl) (by kernel_rfl) (fun _ _ _ h => h) (Or.inl ⟨?_, ?_⟩) (by assumption) ?_
          rotate_left
          all_goals (try simp only [List.getElem_toArray, List.getElem_cons_succ, List.getElem_cons_zero])
          · rfl
          · intro W hSw; (try dsimp only at hSw); go_simp; (try with_reducible rfl)
          try simp only [Act.put, List.setIfInBounds_toArray, List.set_cons_zero, List.set_cons_succ]
          refine' wpAnyH_take (i := 1) (oi := _) (v := _) rfl (by kernel_rfl) (by kernel_rfl) (by kernel_rfl) (fun _ _ _ h => h) (Or.inl ⟨?_, ?_⟩) (by assumption) ?_
          rotate_left
          all_goals (try simp only [List.getElem_toArray, List.getElem_cons_succ, List.getElem_cons_zero])
          · rfl
          · intro W hSw; (try dsimp only at hSw); go_simp; (try with_reducible rfl)
          try simp only [Act.put, List.setIfInBounds_toArray, List.set_cons_zero, List.set_cons_succ]
          refine' wpAnyH_take (i := 2) (oi := _) (v := _) rfl (by kernel_rfl) (by kernel_rfl) (by kernel_rfl) (fun _ _ _ h => h) (Or.inl ⟨?_, ?_⟩) (by assumption) ?_
          rotate_left
          all_goals (try simp only [List.getElem_toArray, List.getElem_cons_succ, List.getElem_cons_zero])
          · rfl
          · intro W hSw; (try dsimp only at hSw); go_simp; (try with_reducible rfl)
          try simp only [Act.put, List.setIfInBounds_toArray, List.set_cons_zero, List.set_cons_succ]
          refine' wpAnyH_take (i := 3) (oi := _) (v := _) rfl (by kernel_rfl) (by kernel_rfl) (by kernel_rfl) (fun _ _ _ h => h) (Or.inl ⟨?_, ?_⟩) (by assumption) ?_
          rotate_left
          all_goals (try simp only [List.getElem_toArray, List.getElem_cons_succ, List.getElem_cons_zero])
          · rfl
          · intro W hSw; (try dsimp only at hSw); go_simp; (try with_reducible rfl)
          try simp only [Act.put, List.setIfInBounds_toArray, List.set_cons_zero, List.set_cons_succ]
          refine' wpAnyH_take (i := 6) (oi := _) (v := _) rfl (by kernel_rfl) (by kernel_rfl) (by kernel_rfl) (fun _ _ _ h => h) (Or.inl ⟨?_, ?_⟩) (by assumption) ?_
          rotate_left
          all_goals (try simp only [List.getElem_toArray, List.getElem_cons_succ, List.getElem_cons_zero])
          · rfl
          · intro W hSw; (try dsimp only at hSw); go_simp; (try with_reducible rfl)
          try simp only [Act.put, List.setIfInBounds_toArray, List.set_cons_zero, List.set_cons_succ]
          refine' wpAnyH_take (i := 7) (oi := _) (v := _) rfl (by kernel_rfl) (by kernel_rfl) (by kernel_rfl) (fun _ _ _ h => h) (Or.inl ⟨?_, ?_⟩) (by assumption) ?_
          rotate_left
          all_goals (try simp only [List.getElem_toArray, List.getElem_cons_succ, List.getElem_cons_zero])
          · rfl
          · intro W hSw; (try dsimp only at hSw); go_simp; (try with_reducible rfl)
          try simp only [Act.put, List.setIfInBounds_toArray, List.set_cons_zero, List.set_cons_succ]
          refine' wpAnyH_take (i := 8) (oi := _) (v := _) rfl (by kernel_rfl) (by kernel_rfl) (by kernel_rfl) (fun _ _ _ h => h) (Or.inl ⟨?_, ?_⟩) (by assumption) ?_
          rotate_left
          all_goals (try simp only [List.getElem_toArray, List.getElem_cons_succ, List.getElem_cons_zero])
          · rfl
          · intro W hSw; (try dsimp only at hSw); go_simp; (try with_reducible rfl)
          try simp only [Act.put, List.setIfInBounds_toArray, List.set_cons_zero, List.set_cons_succ]
          refine' wpAnyH_take (i := 9) (oi := _) (v := _) rfl (by kernel_rfl) (by kernel_rfl) (by kernel_rfl) (fun _ _ _ h => h) (Or.inl ⟨?_, ?_⟩) (by assumption) ?_
          rotate_left
          all_goals (try simp only [List.getElem_toArray, List.getElem_cons_succ, List.getElem_cons_zero])
          · rfl
          · intro W hSw; (try dsimp only at hSw); go_simp; (try with_reducible rfl)
          try simp only [Act.put, List.setIfInBounds_toArray, List.set_cons_zero, List.set_cons_succ]
          refine wpAnyH_ready (rs := [4]) (by kernel_rfl) (by simp) ?_
          refine AllReadyH.cons (o := _) rfl (fun K hK => ?_) AllReadyH.nil
          try simp only [List.getElem_toArray, List.getElem_cons_succ, List.getElem_cons_zero]
          go_simp
          refine HBYT.out.mono ?_
          rintro e w7 ⟨⟨v7, rfl, ho7⟩, hb7⟩
          obtain ⟨a7, n7, c7, rfl, hn7, ho7⟩ := ho7.slice
          have kb1 := conv8 ho7.reads hBd.out
          have kb2 := conv8 (hsd.out.below hb7) hBd.out
          rw [HS.out] at kb1 kb2
          have HB7 := Lib.hid hb7
          clear ho7 hb7 hn7
          go_wp2_with fail
          refine hK.out _ _ kb2 (fun hHeld => ?_)
          clear hK K
          try simp only [Act.put, List.setIfInBounds_toArray, List.set_cons_zero, List.set_cons_succ]
          refine wpAnyH_ready (rs := [5]) (by kernel_rfl) (by simp) ?_
          refine AllReadyH.cons (o := _) rfl (fun K hK => ?_) AllReadyH.nil
          try simp only [List.getElem_toArray, List.getElem_cons_succ, List.getElem_cons_zero]
          go_simp
          refine hK.out _ _ kb2 (fun hHeld => ?_)
          clear hK K
          try simp only [Act.put, List.setIfInBounds_toArray, List.set_cons_zero, List.set_cons_succ]
          refine' wpAnyH_take (i := 10) (oi := _) (v := _) rfl (by kernel_rfl) (by kernel_rfl) (by kernel_rfl) (fun _ _ _ h => h) (Or.inl ⟨?_, ?_⟩) (by assumption) ?_
          rotate_left
          all_goals (try simp only [List.getElem_toArray, List.getElem_cons_succ, List.getElem_cons_zero])
          · rfl
          · intro W hSw; (try dsimp only at hSw); go_simp; (try with_reducible rfl)
          try simp only [Act.put, List.setIfInBounds_toArray, List.set_cons_zero, List.set_cons_succ]
          refine' wpAnyH_take (i := 11) (oi := _) (v := _) rfl (by kernel_rfl) (by kernel_rfl) (by kernel_rfl) (fun _ _ _ h => h) (Or.inl ⟨?_, ?_⟩) (by assumption) ?_
          rotate_left
          all_goals (try simp only [List.getElem_toArray, List.getElem_cons_succ, List.getElem_cons_zero])
          · rfl
          · intro W hSw; (try dsimp only at hSw); go_simp; (try with_reducible rfl)
          try simp only [Act.put, List.setIfInBounds_toArray, List.set_cons_zero, List.set_cons_succ]
          refine wpAnyH_done (by kernel_rfl) ?_ _
          have hb := ((Below.refl w6.heap.size w6).drew).trans HB7.out
          replace H0 := Lib.hid (H0.out.trans (hb.mono H0.out.size))
          replace HX := Lib.hid (HX.out.below hb)
          replace HY := Lib.hid (HY.out.below hb)
          clear hb kb0 kb1 kb2
          go_wp2_with fail
          rcases Nat.lt_trichotomy n m with hlt | heq | hgt
          · have HLT := Lib.hid hlt
            clear hlt
            refine (sub_less HX.out HY.out (fun h => by have := HLT.out; omega)).mono ?_
            rintro e w8 ⟨⟨v8, rfl⟩, hb⟩
            replace H0 := Lib.hid (H0.out.trans (hb.mono H0.out.size))
            replace HX := Lib.hid (HX.out.below hb)
            replace HY := Lib.hid (HY.out.below hb)
            clear hb
            go_wp2_with fail
            refine (cmp_nat HX.out HY.out (-1) (ordN_lt HLT.out).symm).mono ?_
            rintro e w9 ⟨rfl, hb⟩
            replace H0 := Lib.hid (H0.out.trans (hb.mono H0.out.size))
            replace HX := Lib.hid (HX.out.below hb)
            replace HY := Lib.hid (HY.out.below hb)
            clear hb
            go_wp2_with fail
            refine (cmp_nat HY.out HX.out (1) (ordN_gt HLT.out).symm).mono ?_
            rintro e w10 ⟨rfl, hb⟩
            replace H0 := Lib.hid (H0.out.trans (hb.mono H0.out.size))
            clear hb
            go_wp2_with fail
            go_ret
            exact ⟨rfl, H0.out⟩
          · subst heq
            refine (sub_nat HX.out HY.out t0.out (Nat.le_refl _)).mono ?_
            rintro e w8 ⟨⟨v8, rfl, hd⟩, hb⟩
            obtain ⟨da, dn, dc, rfl, hdr⟩ := hd
            obtain rfl : dn = 0 := by rw [← hdr.length, Nat.sub_self, show nat32 0 = [] from natB_zero _]; rfl
            clear hdr
            replace H0 := Lib.hid (H0.out.trans (hb.mono H0.out.size))
            replace HX := Lib.hid (HX.out.below hb)
            replace HY := Lib.hid (HY.out.below hb)
            clear hb
            go_wp2_with fail
            refine (cmp_nat HX.out HY.out (0) (ordN_eq rfl).symm).mono ?_
            rintro e w9 ⟨rfl, hb⟩
            replace H0 := Lib.hid (H0.out.trans (hb.mono H0.out.size))
            replace HX := Lib.hid (HX.out.below hb)
            replace HY := Lib.hid (HY.out.below hb)
            clear hb
            go_wp2_with fail
            refine (cmp_nat HY.out HX.out (0) (ordN_eq rfl).symm).mono ?_
            rintro e w10 ⟨rfl, hb⟩
            replace H0 := Lib.hid (H0.out.trans (hb.mono H0.out.size))
            clear hb
            go_wp2_with fail
            go_ret
            exact ⟨rfl, H0.out⟩
          · have HGT := Lib.hid hgt
            clear hgt
            refine (sub_nat HX.out HY.out t0.out (by have := HGT.out; omega)).mono ?_
            rintro e w8 ⟨⟨v8, rfl, hd⟩, hb⟩
            clear hd
            replace H0 := Lib.hid (H0.out.trans (hb.mono H0.out.size))
            replace HX := Lib.hid (HX.out.below hb)
            replace HY := Lib.hid (HY.out.below hb)
            clear hb
            go_wp2_with fail
            refine (cmp_nat HX.out HY.out (1) (ordN_gt HGT.out).symm).mono ?_
            rintro e w9 ⟨rfl, hb⟩
            replace H0 := Lib.hid (H0.out.trans (hb.mono H0.out.size))
            replace HX := Lib.hid (HX.out.below hb)
            replace HY := Lib.hid (HY.out.below hb)
            clear hb
            go_wp2_with fail
            refine (cmp_nat HY.out HX.out (-1) (ordN_lt HGT.out).symm).mono ?_
            rintro e w10 ⟨rfl, hb⟩
            replace H0 := Lib.hid (H0.out.trans (hb.mono H0.out.size))
            clear hb
            go_wp2_with fail
            go_ret
            exact ⟨rfl, H0.out⟩
  case inr =>
    have hy1 : ((y : Int) == 0) = false := by simp; omega
    clear hfirst
    go_wp2_with fail
    refine (bits_nat HX.out (fun a len cap e => by cases e; omega) bb BB.out).mono ?_
    rintro e w' ⟨rfl, rfl⟩
    go_wp2
    go_loop [13] (fun i => ∃ k : Nat, k ≤ lb ∧ i = .int .i64 k ∧ Hid (∀ j, j < k → B[j]?.getD 0 = 0)) (fun i => lb - (intOf i).toNat)
    case atStart => exact ⟨0, Nat.zero_le _, rfl, fun j hj => by omega⟩
    case round =>
      obtain ⟨k, hk, rfl, hall⟩ := hrel
      by_cases hcont : k < lb ∧ B[k]?.getD 0 = 0
      · obtain ⟨hlt, hz⟩ := hcont
        obtain ⟨bo, off, rfl, _, hc⟩ := HB.out.cells (by omega)
        have hck := hc k hlt
        rw [hz] at hck
        have HZ := Lib.hid hz
        clear hc hz
        go_wp2
        go_round
        case rel => exact ⟨k + 1, by omega, by go_num, fun j hj => by
          by_cases e : j < k
          · exact hall.out j e
          · obtain rfl : j = k := by omega
            exact HZ.out⟩
        case measure => simp [intOf] <;> omega
      · have hld := Lib.hid (lead_drop B k (by rw [HB.out.length]; exact hk) hall.out (fun h => by rw [HB.out.length] at h; exact fun e => hcont ⟨h, e⟩))
        have hex : Hid (k = lb ∨ ∃ bo off y, b = some ⟨bo, off, none⟩ ∧ w5.cell? ⟨bo, off + k, none⟩ = some (.int .u8 ((y : Nat) : Int)) ∧ y ≠ 0 ∧ k < lb) := by
          rcases Nat.lt_or_ge k lb with h | h
          · obtain ⟨bo, off, rfl, _, hc⟩ := HB.out.cells (by omega)
            exact .inr ⟨bo, off, _, rfl, hc k h, fun e => hcont ⟨h, e⟩, h⟩
          · exact .inl (by omega)
        clear hcont
        have HRD := Lib.hid (read_any _ _ _ _ _ HB.out HBy.out (by omega))
        rcases hex.out with hz | ⟨bo2, off2, y2, rfl, hcy2, hy2, hlt2⟩
        · have hle := HB.out.le
          have HKL := Lib.hid hz
          rcases Nat.eq_zero_or_pos k with hk0 | hk0
          · obtain rfl := hk0
            obtain rfl := hz
            clear hex
            have hBe : Hid (B = []) := List.eq_nil_of_length_eq_zero HB.out.length
            cases b with
            | none =>
              obtain rfl : cb = 0 := HB.out.nil rfl
              go_wp2_with fail
              refine HRD.out.mono ?_
              rintro e w6 ⟨hr, hb⟩
              rw [cutR_small ht.out] at hr
              obtain ⟨v6, rfl, hz6⟩ := hr
              obtain ⟨ua, un, uc, rfl, hun, hz6⟩ := hz6.slice
              replace H0 := Lib.hid (H0.out.trans (hb.mono H0.out.size))
              replace HX := Lib.hid (HX.out.below hb)
              replace HY := Lib.hid (HY.out.below hb)
              replace HB := Lib.hid (HB.out.below hb)
              have HU := Lib.hid (NatC.of hz6)
              have hun8 : un ≤ 4398046511104 := by have := (natB_length (b := 4294967296) (by decide) (valB 256 B.reverse) 256).2 ht.out; rw [hun]; exact Nat.le_trans this (by decide)
              clear hb hz6 hun
              have HSB : Hid (Reads .u8 w6 none 0 0 (B.drop 0)) := Lib.hid (by rw [hBe.out]; exact Reads.none _ _)
              have hBd : Hid (Byt (B.drop 0)) := fun x hx => HBy.out x (List.mem_of_mem_drop hx)
              have hbyt := bytes_nat (show NatAt w6.drew _ _ from NatAt.drewN HU.out.at 1) hun8
              rw [show natB 256 (valB 256 B.reverse) = bareN B.reverse from (bareN_eq (by decide) (fun x hx => HBy.out x (List.mem_reverse.1 hx))).symm, hld.out] at hbyt
              have HBYT := Lib.hid hbyt
              clear hbyt
              obtain ⟨S, hS⟩ : ∃ S, strOf (u8s (B.drop 0)) = S := ⟨_, rfl⟩
              have hsd : Hid (Reads .u8 w6.drew _ _ _ (B.drop 0)) := HSB.out.drewN 1
              have kb0 := conv8 hsd.out hBd.out
              rw [hS] at kb0
              have HS := Lib.hid hS
              clear hS
              go_wp2_with fail
              refine wp_region_held_drew (S := fun W => (convert 24 9 (.slice none 0 0)).run Try.prog W = .ok (.string S) W) (by kernel_rfl) kb0 (fun hHeld => ?_)
              refine' wpAnyH_take (i := 0) (oi := _) (v := _) rfl (by kernel_rfl) (by kernel_rfl) (by kernel_rfl) (fun _ _ _ h => h) (Or.inl ⟨?_, ?_⟩) (by assumption) ?_
              rotate_left
              all_goals (try simp only [List.getElem_toArray, List.getElem_cons_succ, List.getElem_cons_zero])
              · rfl
              · intro W hSw; (try dsimp only at hSw); go_simp; (try with_reducible rfl)
              try simp only [Act.put, List.setIfInBounds_toArray, List.set_cons_zero, List.set_cons_succ]
              refine' wpAnyH_take (i := 1) (oi := _) (v := _) rfl (by kernel_rfl) (by kernel_rfl) (by kernel_rfl) (fun _ _ _ h => h) (Or.inl ⟨?_, ?_⟩) (by assumption) ?_
              rotate_left
              all_goals (try simp only [List.getElem_toArray, List.getElem_cons_succ, List.getElem_cons_zero])
              · rfl
              · intro W hSw; (try dsimp only at hSw); go_simp; (try with_reducible rfl)
              try simp only [Act.put, List.setIfInBounds_toArray, List.set_cons_zero, List.set_cons_succ]
              refine' wpAnyH_take (i := 2) (oi := _) (v := _) rfl (by kernel_rfl) (by kernel_rfl) (by kernel_rfl) (fun _ _ _ h => h) (Or.inl ⟨?_, ?_⟩) (by assumption) ?_
              rotate_left
              all_goals (try simp only [List.getElem_toArray, List.getElem_cons_succ, List.getElem_cons_zero])
              · rfl
              · intro W hSw; (try dsimp only at hSw); go_simp; (try with_reducible rfl)
              try simp only [Act.put, List.setIfInBounds_toArray, List.set_cons_zero, List.set_cons_succ]
              refine' wpAnyH_take (i := 3) (oi := _) (v := _) rfl (by kernel_rfl) (by kernel_rfl) (by kernel_rfl) (fun _ _ _ h => h) (Or.inl ⟨?_, ?_⟩) (by assumption) ?_
              rotate_left
              all_goals (try simp only [List.getElem_toArray, List.getElem_cons_succ, List.getElem_cons_zero])
              · rfl
              · intro W hSw; (try dsimp only at hSw); go_simp; (try with_reducible rfl)
              try simp only [Act.put, List.setIfInBounds_toArray, List.set_cons_zero, List.set_cons_succ]
              refine' wpAnyH_take (i := 6) (oi := _) (v := _) rfl (by kernel_rfl) (by kernel_rfl) (by kernel_rfl) (fun _ _ _ h => h) (Or.inl ⟨?_, ?_⟩) (by assumption) ?_
              rotate_left
              all_goals (try simp only [List.getElem_toArray, List.getElem_cons_succ, List.getElem_cons_zero])
              · rfl
              · intro W hSw; (try dsimp only at hSw); go_simp; (try with_reducible rfl)
              try simp only [Act.put, List.setIfInBounds_toArray, List.set_cons_zero, List.set_cons_succ]
              refine' wpAnyH_take (i := 7) (oi := _) (v := _) rfl (by kernel_rfl) (by kernel_rfl) (by kernel_rfl) (fun _ _ _ h => h) (Or.inl ⟨?_, ?_⟩) (by assumption) ?_
              rotate_left
              all_goals (try simp only [List.getElem_toArray, List.getElem_cons_succ, List.getElem_cons_zero])
              · rfl
              · intro W hSw; (try dsimp only at hSw); go_simp; (try with_reducible rfl)
              try simp only [Act.put, List.setIfInBounds_toArray, List.set_cons_zero, List.set_cons_succ]
              refine' wpAnyH_take (i := 8) (oi := _) (v := _) rfl (by kernel_rfl) (by kernel_rfl) (by kernel_rfl) (fun _ _ _ h => h) (Or.inl ⟨?_, ?_⟩) (by assumption) ?_
              rotate_left
              all_goals (try simp only [List.getElem_toArray, List.getElem_cons_succ, List.getElem_cons_zero])
              · rfl
              · intro W hSw; (try dsimp only at hSw); go_simp; (try with_reducible rfl)
              try simp only [Act.put, List.setIfInBounds_toArray, List.set_cons_zero, List.set_cons_succ]
              refine' wpAnyH_take (i := 9) (oi := _) (v := _) rfl (by kernel_rfl) (by kernel_rfl) (by kernel_rfl) (fun _ _ _ h => h) (Or.inl ⟨?_, ?_⟩) (by assumption) ?_
              rotate_left
              all_goals (try simp only [List.getElem_toArray, List.getElem_cons_succ, List.getElem_cons_zero])
              · rfl
              · intro W hSw; (try dsimp only at hSw); go_simp; (try with_reducible rfl)
              try simp only [Act.put, List.setIfInBounds_toArray, List.set_cons_zero, List.set_cons_succ]
              refine wpAnyH_ready (rs := [4]) (by kernel_rfl) (by simp) ?_
              refine AllReadyH.cons (o := _) rfl (fun K hK => ?_) AllReadyH.nil
              try simp only [List.getElem_toArray, List.getElem_cons_succ, List.getElem_cons_zero]
              go_simp
              refine HBYT.out.mono ?_
              rintro e w7 ⟨⟨v7, rfl, ho7⟩, hb7⟩
              obtain ⟨a7, n7, c7, rfl, hn7, ho7⟩ := ho7.slice
              have kb1 := conv8 ho7.reads hBd.out
              have kb2 := conv8 (hsd.out.below hb7) hBd.out
              rw [HS.out] at kb1 kb2
              have HB7 := Lib.hid hb7
              clear ho7 hb7 hn7
              go_wp2_with fail
              refine hK.out _ _ kb2 (fun hHeld => ?_)
              clear hK K
              try simp only [Act.put, List.setIfInBounds_toArray, List.set_cons_zero, List.set_cons_succ]
              refine wpAnyH_ready (rs := [5]) (by kernel_rfl) (by simp) ?_
              refine AllReadyH.cons (o := _) rfl (fun K hK => ?_) AllReadyH.nil
              try simp only [List.getElem_toArray, List.getElem_cons_succ, List.getElem_cons_zero]
              go_simp
              refine hK.out _ _ kb2 (fun hHeld => ?_)
              clear hK K
              try simp only [Act.put, List.setIfInBounds_toArray, List.set_cons_zero, List.set_cons_succ]
              refine' wpAnyH_take (i := 10) (oi := _) (v := _) rfl (by kernel_rfl) (by kernel_rfl) (by kernel_rfl) (fun _ _ _ h => h) (Or.inl ⟨?_, ?_⟩) (by assumption) ?_
              rotate_left
              all_goals (try simp only [List.getElem_toArray, List.getElem_cons_succ, List.getElem_cons_zero])
              · rfl
              · intro W hSw; (try dsimp only at hSw); go_simp; (try with_reducible rfl)
              try simp only [Act.put, List.setIfInBounds_toArray, List.set_cons_zero, List.set_cons_succ]
              refine' wpAnyH_take (i := 11) (oi := _) (v := _) rfl (by kernel_rfl) (by kernel_rfl) (by kernel_rfl) (fun _ _ _ h => h) (Or.inl ⟨?_, ?_⟩) (by assumption) ?_
              rotate_left
              all_goals (try simp only [List.getElem_toArray, List.getElem_cons_succ, List.getElem_cons_zero])
              · rfl
              · intro W hSw; (try dsimp only at hSw); go_simp; (try with_reducible rfl)
              try simp only [Act.put, List.setIfInBounds_toArray, List.set_cons_zero, List.set_cons_succ]
              refine wpAnyH_done (by kernel_rfl) ?_ _
              have hb := ((Below.refl w6.heap.size w6).drew).trans HB7.out
              replace H0 := Lib.hid (H0.out.trans (hb.mono H0.out.size))
              replace HX := Lib.hid (HX.out.below hb)
              replace HY := Lib.hid (HY.out.below hb)
              clear hb kb0 kb1 kb2
              go_wp2_with fail
              rcases Nat.lt_trichotomy n m with hlt | heq | hgt
              · have HLT := Lib.hid hlt
                clear hlt
                refine (sub_less HX.out HY.out (fun h => by have := HLT.out; omega)).mono ?_
                rintro e w8 ⟨⟨v8, rfl⟩, hb⟩
                replace H0 := Lib.hid (H0.out.trans (hb.mono H0.out.size))
                replace HX := Lib.hid (HX.out.below hb)
                replace HY := Lib.hid (HY.out.below hb)
                clear hb
                go_wp2_with fail
                refine (cmp_nat HX.out HY.out (-1) (ordN_lt HLT.out).symm).mono ?_
                rintro e w9 ⟨rfl, hb⟩
                replace H0 := Lib.hid (H0.out.trans (hb.mono H0.out.size))
                replace HX := Lib.hid (HX.out.below hb)
                replace HY := Lib.hid (HY.out.below hb)
                clear hb
                go_wp2_with fail
                refine (cmp_nat HY.out HX.out (1) (ordN_gt HLT.out).symm).mono ?_
                rintro e w10 ⟨rfl, hb⟩
                replace H0 := Lib.hid (H0.out.trans (hb.mono H0.out.size))
                clear hb
                go_wp2_with fail
                go_ret
                exact ⟨rfl, H0.out⟩
              · subst heq
                refine (sub_nat HX.out HY.out t0.out (Nat.le_refl _)).mono ?_
                rintro e w8 ⟨⟨v8, rfl, hd⟩, hb⟩
                obtain ⟨da, dn, dc, rfl, hdr⟩ := hd
                obtain rfl : dn = 0 := by rw [← hdr.length, Nat.sub_self, show nat32 0 = [] from natB_zero _]; rfl
                clear hdr
                replace H0 := Lib.hid (H0.out.trans (hb.mono H0.out.size))
                replace HX := Lib.hid (HX.out.below hb)
                replace HY := Lib.hid (HY.out.below hb)
                clear hb
                go_wp2_with fail
                refine (cmp_nat HX.out HY.out (0) (ordN_eq rfl).symm).mono ?_
                rintro e w9 ⟨rfl, hb⟩
                replace H0 := Lib.hid (H0.out.trans (hb.mono H0.out.size))
                replace HX := Lib.hid (HX.out.below hb)
                replace HY := Lib.hid (HY.out.below hb)
                clear hb
                go_wp2_with fail
                refine (cmp_nat HY.out HX.out (0) (ordN_eq rfl).symm).mono ?_
                rintro e w10 ⟨rfl, hb⟩
                replace H0 := Lib.hid (H0.out.trans (hb.mono H0.out.size))
                clear hb
                go_wp2_with fail
                go_ret
                exact ⟨rfl, H0.out⟩
              · have HGT := Lib.hid hgt
                clear hgt
                refine (sub_nat HX.out HY.out t0.out (by have := HGT.out; omega)).mono ?_
                rintro e w8 ⟨⟨v8, rfl, hd⟩, hb⟩
                clear hd
                replace H0 := Lib.hid (H0.out.trans (hb.mono H0.out.size))
                replace HX := Lib.hid (HX.out.below hb)
                replace HY := Lib.hid (HY.out.below hb)
                clear hb
                go_wp2_with fail
                refine (cmp_nat HX.out HY.out (1) (ordN_gt HGT.out).symm).mono ?_
                rintro e w9 ⟨rfl, hb⟩
                replace H0 := Lib.hid (H0.out.trans (hb.mono H0.out.size))
                replace HX := Lib.hid (HX.out.below hb)
                replace HY := Lib.hid (HY.out.below hb)
                clear hb
                go_wp2_with fail
                refine (cmp_nat HY.out HX.out (-1) (ordN_lt HGT.out).symm).mono ?_
                rintro e w10 ⟨rfl, hb⟩
                replace H0 := Lib.hid (H0.out.trans (hb.mono H0.out.size))
                clear hb
                go_wp2_with fail
                go_ret
                exact ⟨rfl, H0.out⟩
            | some ad =>
              rcases Nat.eq_zero_or_pos cb with hcb | hcb
              · subst hcb
                go_wp2_with fail
                refine HRD.out.mono ?_
                rintro e w6 ⟨hr, hb⟩
                rw [cutR_small ht.out] at hr
                obtain ⟨v6, rfl, hz6⟩ := hr
                obtain ⟨ua, un, uc, rfl, hun, hz6⟩ := hz6.slice
                replace H0 := Lib.hid (H0.out.trans (hb.mono H0.out.size))
                replace HX := Lib.hid (HX.out.below hb)
                replace HY := Lib.hid (HY.out.below hb)
                replace HB := Lib.hid (HB.out.below hb)
                have HU := Lib.hid (NatC.of hz6)
                have hun8 : un ≤ 4398046511104 := by have := (natB_length (b := 4294967296) (by decide) (valB 256 B.reverse) 256).2 ht.out; rw [hun]; exact Nat.le_trans this (by decide)
                clear hb hz6 hun
                have HSB : Hid (Reads .u8 w6 (some ad) 0 0 (B.drop 0)) := Lib.hid (by rw [hBe.out]; exact Reads.empty _ _ _ (by unfold maxLen; omega) (fun h => by cases h))
                have hBd : Hid (Byt (B.drop 0)) := fun x hx => HBy.out x (List.mem_of_mem_drop hx)
                have hbyt := bytes_nat (show NatAt w6.drew _ _ from NatAt.drewN HU.out.at 1) hun8
                rw [show natB 256 (valB 256 B.reverse) = bareN B.reverse from (bareN_eq (by decide) (fun x hx => HBy.out x (List.mem_reverse.1 hx))).symm, hld.out] at hbyt
                have HBYT := Lib.hid hbyt
                clear hbyt
                obtain ⟨S, hS⟩ : ∃ S, strOf (u8s (B.drop 0)) = S := ⟨_, rfl⟩
                have hsd : Hid (Reads .u8 w6.drew _ _ _ (B.drop 0)) := HSB.out.drewN 1
                have kb0 := conv8 hsd.out hBd.out
                rw [hS] at kb0
                have HS := Lib.hid hS
                clear hS
                go_wp2_with fail
                refine wp_region_held_drew (S := fun W => (convert 24 9 (.slice (some ad) 0 0)).run Try.prog W = .ok (.string S) W) (by kernel_rfl) kb0 (fun hHeld => ?_)
                refine' wpAnyH_take (i := 0) (oi := _) (v := _) rfl (by kernel_rfl) (by kernel_rfl) (by kernel_rfl) (fun _ _ _ h => h) (Or.inl ⟨?_, ?_⟩) (by assumption) ?_
                rotate_left
                all_goals (try simp only [List.getElem_toArray, List.getElem_cons_succ, List.getElem_cons_zero])
                · rfl
                · intro W hSw; (try dsimp only at hSw); go_simp; (try with_reducible rfl)
                try simp only [Act.put, List.setIfInBounds_toArray, List.set_cons_zero, List.set_cons_succ]
                refine' wpAnyH_take (i := 1) (oi := _) (v := _) rfl (by kernel_rfl) (by kernel_rfl) (by kernel_rfl) (fun _ _ _ h => h) (Or.inl ⟨?_, ?_⟩) (by assumption) ?_
                rotate_left
                all_goals (try simp only [List.getElem_toArray, List.getElem_cons_succ, List.getElem_cons_zero])
                · rfl
                · intro W hSw; (try dsimp only at hSw); go_simp; (try with_reducible rfl)
                try simp only [Act.put, List.setIfInBounds_toArray, List.set_cons_zero, List.set_cons_succ]
                refine' wpAnyH_take (i := 2) (oi := _) (v := _) rfl (by kernel_rfl) (by kernel_rfl) (by kernel_rfl) (fun _ _ _ h => h) (Or.inl ⟨?_, ?_⟩) (by assumption) ?_
                rotate_left
                all_goals (try simp only [List.getElem_toArray, List.getElem_cons_succ, List.getElem_cons_zero])
                · rfl
                · intro W hSw; (try dsimp only at hSw); go_simp; (try with_reducible rfl)
                try simp only [Act.put, List.setIfInBounds_toArray, List.set_cons_zero, List.set_cons_succ]
                refine' wpAnyH_take (i := 3) (oi := _) (v := _) rfl (by kernel_rfl) (by kernel_rfl) (by kernel_rfl) (fun _ _ _ h => h) (Or.inl ⟨?_, ?_⟩) (by assumption) ?_
                rotate_left
                all_goals (try simp only [List.getElem_toArray, List.getElem_cons_succ, List.getElem_cons_zero])
                · rfl
                · intro W hSw; (try dsimp only at hSw); go_simp; (try with_reducible rfl)
                try simp only [Act.put, List.setIfInBounds_toArray, List.set_cons_zero, List.set_cons_succ]
                refine' wpAnyH_take (i := 6) (oi := _) (v := _) rfl (by kernel_rfl) (by kernel_rfl) (by kernel_rfl) (fun _ _ _ h => h) (Or.inl ⟨?_, ?_⟩) (by assumption) ?_
                rotate_left
                all_goals (try simp only [List.getElem_toArray, List.getElem_cons_succ, List.getElem_cons_zero])
                · rfl
                · intro W hSw; (try dsimp only at hSw); go_simp; (try with_reducible rfl)
                try simp only [Act.put, List.setIfInBounds_toArray, List.set_cons_zero, List.set_cons_succ]
                refine' wpAnyH_take (i := 7) (oi := _) (v := _) rfl (by kernel_rfl) (by kernel_rfl) (by kernel_rfl) (fun _ _ _ h => h) (Or.inl ⟨?_, ?_⟩) (by assumption) ?_
                rotate_left
                all_goals (try simp only [List.getElem_toArray, List.getElem_cons_succ, List.getElem_cons_zero])
                · rfl
                · intro W hSw; (try dsimp only at hSw); go_simp; (try with_reducible rfl)
                try simp only [Act.put, List.setIfInBounds_toArray, List.set_cons_zero, List.set_cons_succ]
                refine' wpAnyH_take (i := 8) (oi := _) (v := _) rfl (by kernel_rfl) (by kernel_rfl) (by kernel_rfl) (fun _ _ _ h => h) (Or.inl ⟨?_, ?_⟩) (by assumption) ?_
                rotate_left
                all_goals (try simp only [List.getElem_toArray, List.getElem_cons_succ, List.getElem_cons_zero])
                · rfl
                · intro W hSw; (try dsimp only at hSw); go_simp; (try with_reducible rfl)
                try simp only [Act.put, List.setIfInBounds_toArray, List.set_cons_zero, List.set_cons_succ]
                refine' wpAnyH_take (i := 9) (oi := _) (v := _) rfl (by kernel_rfl) (by kernel_rfl) (by kernel_rfl) (fun _ _ _ h => h) (Or.inl ⟨?_, ?_⟩) (by assumption) ?_
                rotate_left
                all_goals (try simp only [List.getElem_toArray, List.getElem_cons_succ, List.getElem_cons_zero])
                · rfl
                · intro W hSw; (try dsimp only at hSw); go_simp; (try with_reducible rfl)
                try simp only [Act.put, List.setIfInBounds_toArray, List.set_cons_zero, List.set_cons_succ]
                refine wpAnyH_ready (rs := [4]) (by kernel_rfl) (by simp) ?_
                refine AllReadyH.cons (o := _) rfl (fun K hK => ?_) AllReadyH.nil
                try simp only [List.getElem_toArray, List.getElem_cons_succ, List.getElem_cons_zero]
                go_simp
                refine HBYT.out.mono ?_
                rintro e w7 ⟨⟨v7, rfl, ho7⟩, hb7⟩
                obtain ⟨a7, n7, c7, rfl, hn7, ho7⟩ := ho7.slice
                have kb1 := conv8 ho7.reads hBd.out
                have kb2 := conv8 (hsd.out.below hb7) hBd.out
                rw [HS.out] at kb1 kb2
                have HB7 := Lib.hid hb7
                clear ho7 hb7 hn7
                go_wp2_with fail
                refine hK.out _ _ kb2 (fun hHeld => ?_)
                clear hK K
                try simp only [Act.put, List.setIfInBounds_toArray, List.set_cons_zero, List.set_cons_succ]
                refine wpAnyH_ready (rs := [5]) (by kernel_rfl) (by simp) ?_
                refine AllReadyH.cons (o := _) rfl (fun K hK => ?_) AllReadyH.nil
                try simp only [List.getElem_toArray, List.getElem_cons_succ, List.getElem_cons_zero]
                go_simp
                refine hK.out _ _ kb2 (fun hHeld => ?_)
                clear hK K
                try simp only [Act.put, List.setIfInBounds_toArray, List.set_cons_zero, List.set_cons_succ]
                refine' wpAnyH_take (i := 10) (oi := _) (v := _) rfl (by kernel_rfl) (by kernel_rfl) (by kernel_rfl) (fun _ _ _ h => h) (Or.inl ⟨?_, ?_⟩) (by assumption) ?_
                rotate_left
                all_goals (try simp only [List.getElem_toArray, List.getElem_cons_succ, List.getElem_cons_zero])
                · rfl
                · intro W hSw; (try dsimp only at hSw); go_simp; (try with_reducible rfl)
                try simp only [Act.put, List.setIfInBounds_toArray, List.set_cons_zero, List.set_cons_succ]
                refine' wpAnyH_take (i := 11) (oi := _) (v := _) rfl (by kernel_rfl) (by kernel_rfl) (by kernel_rfl) (fun _ _ _ h => h) (Or.inl ⟨?_, ?_⟩) (by assumption) ?_
                rotate_left
                all_goals (try simp only [List.getElem_toArray, List.getElem_cons_succ, List.getElem_cons_zero])
                · rfl
                · intro W hSw; (try dsimp only at hSw); go_simp; (try with_reducible rfl)
                try simp only [Act.put, List.setIfInBounds_toArray, List.set_cons_zero, List.set_cons_succ]
                refine wpAnyH_done (by kernel_rfl) ?_ _
                have hb := ((Below.refl w6.heap.size w6).drew).trans HB7.out
                replace H0 := Lib.hid (H0.out.trans (hb.mono H0.out.size))
                replace HX := Lib.hid (HX.out.below hb)
                replace HY := Lib.hid (HY.out.below hb)
                clear hb kb0 kb1 kb2
                go_wp2_with fail
                rcases Nat.lt_trichotomy n m with hlt | heq | hgt
                · have HLT := Lib.hid hlt
                  clear hlt
                  refine (sub_less HX.out HY.out (fun h => by have := HLT.out; omega)).mono ?_
                  rintro e w8 ⟨⟨v8, rfl⟩, hb⟩
                  replace H0 := Lib.hid (H0.out.trans (hb.mono H0.out.size))
                  replace HX := Lib.hid (HX.out.below hb)
                  replace HY := Lib.hid (HY.out.below hb)
                  clear hb
                  go_wp2_with fail
                  refine (cmp_nat HX.out HY.out (-1) (ordN_lt HLT.out).symm).mono ?_
                  rintro e w9 ⟨rfl, hb⟩
                  replace H0 := Lib.hid (H0.out.trans (hb.mono H0.out.size))
                  replace HX := Lib.hid (HX.out.below hb)
                  replace HY := Lib.hid (HY.out.below hb)
                  clear hb
                  go_wp2_with fail
                  refine (cmp_nat HY.out HX.out (1) (ordN_gt HLT.out).symm).mono ?_
                  rintro e w10 ⟨rfl, hb⟩
                  replace H0 := Lib.hid (H0.out.trans (hb.mono H0.out.size))
                  clear hb
                  go_wp2_with fail
                  go_ret
                  exact ⟨rfl, H0.out⟩
                · subst heq
                  refine (sub_nat HX.out HY.out t0.out (Nat.le_refl _)).mono ?_
                  rintro e w8 ⟨⟨v8, rfl, hd⟩, hb⟩
                  obtain ⟨da, dn, dc, rfl, hdr⟩ := hd
                  obtain rfl : dn = 0 := by rw [← hdr.length, Nat.sub_self, show nat32 0 = [] from natB_zero _]; rfl
                  clear hdr
                  replace H0 := Lib.hid (H0.out.trans (hb.mono H0.out.size))
                  replace HX := Lib.hid (HX.out.below hb)
                  replace HY := Lib.hid (HY.out.below hb)
                  clear hb
                  go_wp2_with fail
                  refine (cmp_nat HX.out HY.out (0) (ordN_eq rfl).symm).mono ?_
                  rintro e w9 ⟨rfl, hb⟩
                  replace H0 := Lib.hid (H0.out.trans (hb.mono H0.out.size))
                  replace HX := Lib.hid (HX.out.below hb)
                  replace HY := Lib.hid (HY.out.below hb)
                  clear hb
                  go_wp2_with fail
                  refine (cmp_nat HY.out HX.out (0) (ordN_eq rfl).symm).mono ?_
                  rintro e w10 ⟨rfl, hb⟩
                  replace H0 := Lib.hid (H0.out.trans (hb.mono H0.out.size))
                  clear hb
                  go_wp2_with fail
                  go_ret
                  exact ⟨rfl, H0.out⟩
                · have HGT := Lib.hid hgt
                  clear hgt
                  refine (sub_nat HX.out HY.out t0.out (by have := HGT.out; omega)).mono ?_
                  rintro e w8 ⟨⟨v8, rfl, hd⟩, hb⟩
                  clear hd
                  replace H0 := Lib.hid (H0.out.trans (hb.mono H0.out.size))
                  replace HX := Lib.hid (HX.out.below hb)
                  replace HY := Lib.hid (HY.out.below hb)
                  clear hb
                  go_wp2_with fail
                  refine (cmp_nat HX.out HY.out (1) (ordN_gt HGT.out).symm).mono ?_
                  rintro e w9 ⟨rfl, hb⟩
                  replace H0 := Lib.hid (H0.out.trans (hb.mono H0.out.size))
                  replace HX := Lib.hid (HX.out.below hb)
                  replace HY := Lib.hid (HY.out.below hb)
                  clear hb
                  go_wp2_with fail
                  refine (cmp_nat HY.out HX.out (-1) (ordN_lt HGT.out).symm).mono ?_
                  rintro e w10 ⟨rfl, hb⟩
                  replace H0 := Lib.hid (H0.out.trans (hb.mono H0.out.size))
                  clear hb
                  go_wp2_with fail
                  go_ret
                  exact ⟨rfl, H0.out⟩
              · have hcbk : ¬ cb = 0 := by omega
                go_wp2_with fail
                refine HRD.out.mono ?_
                rintro e w6 ⟨hr, hb⟩
                rw [cutR_small ht.out] at hr
                obtain ⟨v6, rfl, hz6⟩ := hr
                obtain ⟨ua, un, uc, rfl, hun, hz6⟩ := hz6.slice
                replace H0 := Lib.hid (H0.out.trans (hb.mono H0.out.size))
                replace HX := Lib.hid (HX.out.below hb)
                replace HY := Lib.hid (HY.out.below hb)
                replace HB := Lib.hid (HB.out.below hb)
                have HU := Lib.hid (NatC.of hz6)
                have hun8 : un ≤ 4398046511104 := by have := (natB_length (b := 4294967296) (by decide) (valB 256 B.reverse) 256).2 ht.out; rw [hun]; exact Nat.le_trans this (by decide)
                clear hb hz6 hun
                have HSB : Hid (Reads .u8 w6 (some ad) 0 cb (B.drop 0)) := Lib.hid (by rw [hBe.out]; exact Reads.empty _ _ _ HB.out.max (fun h => by cases h))
                have hBd : Hid (Byt (B.drop 0)) := fun x hx => HBy.out x (List.mem_of_mem_drop hx)
                have hbyt := bytes_nat (show NatAt w6.drew _ _ from NatAt.drewN HU.out.at 1) hun8
                rw [show natB 256 (valB 256 B.reverse) = bareN B.reverse from (bareN_eq (by decide) (fun x hx => HBy.out x (List.mem_reverse.1 hx))).symm, hld.out] at hbyt
                have HBYT := Lib.hid hbyt
                clear hbyt
                obtain ⟨S, hS⟩ : ∃ S, strOf (u8s (B.drop 0)) = S := ⟨_, rfl⟩
                have hsd : Hid (Reads .u8 w6.drew _ _ _ (B.drop 0)) := HSB.out.drewN 1
                have kb0 := conv8 hsd.out hBd.out
                rw [hS] at kb0
                have HS := Lib.hid hS
                clear hS
                go_wp2_with fail
                refine wp_region_held_drew (S := fun W => (convert 24 9 (.slice (some ad) 0 cb)).run Try.prog W = .ok (.string S) W) (by kernel_rfl) kb0 (fun hHeld => ?_)
                refine' wpAnyH_take (i := 0) (oi := _) (v := _) rfl (by kernel_rfl) (by kernel_rfl) (by kernel_rfl) (fun _ _ _ h => h) (Or.inl ⟨?_, ?_⟩) (by assumption) ?_
                rotate_left
                all_goals (try simp only [List.getElem_toArray, List.getElem_cons_succ, List.getElem_cons_zero])
                · rfl
                · intro W hSw; (try dsimp only at hSw); go_simp; (try with_reducible rfl)
                try simp only [Act.put, List.setIfInBounds_toArray, List.set_cons_zero, List.set_cons_succ]
                refine' wpAnyH_take (i := 1) (oi := _) (v := _) rfl (by kernel_rfl) (by kernel_rfl) (by kernel_rfl) (fun _ _ _ h => h) (Or.inl ⟨?_, ?_⟩) (by assumption) ?_
                rotate_left
                all_goals (try simp only [List.getElem_toArray, List.getElem_cons_succ, List.getElem_cons_zero])
                · rfl
                · intro W hSw; (try dsimp only at hSw); go_simp; (try with_reducible rfl)
                try simp only [Act.put, List.setIfInBounds_toArray, List.set_cons_zero, List.set_cons_succ]
                refine' wpAnyH_take (i := 2) (oi := _) (v := _) rfl (by kernel_rfl) (by kernel_rfl) (by kernel_rfl) (fun _ _ _ h => h) (Or.inl ⟨?_, ?_⟩) (by assumption) ?_
                rotate_left
                all_goals (try simp only [List.getElem_toArray, List.getElem_cons_succ, List.getElem_cons_zero])
                · rfl
                · intro W hSw; (try dsimp only at hSw); go_simp; (try with_reducible rfl)
                try simp only [Act.put, List.setIfInBounds_toArray, List.set_cons_zero, List.set_cons_succ]
                refine' wpAnyH_take (i := 3) (oi := _) (v := _) rfl (by kernel_rfl) (by kernel_rfl) (by kernel_rfl) (fun _ _ _ h => h) (Or.inl ⟨?_, ?_⟩) (by assumption) ?_
                rotate_left
                all_goals (try simp only [List.getElem_toArray, List.getElem_cons_succ, List.getElem_cons_zero])
                · rfl
                · intro W hSw; (try dsimp only at hSw); go_simp; (try with_reducible rfl)
                try simp only [Act.put, List.setIfInBounds_toArray, List.set_cons_zero, List.set_cons_succ]
                refine' wpAnyH_take (i := 6) (oi := _) (v := _) rfl (by kernel_rfl) (by kernel_rfl) (by kernel_rfl) (fun _ _ _ h => h) (Or.inl ⟨?_, ?_⟩) (by assumption) ?_
                rotate_left
                all_goals (try simp only [List.getElem_toArray, List.getElem_cons_succ, List.getElem_cons_zero])
                · rfl
                · intro W hSw; (try dsimp only at hSw); go_simp; (try with_reducible rfl)
                try simp only [Act.put, List.setIfInBounds_toArray, List.set_cons_zero, List.set_cons_succ]
                refine' wpAnyH_take (i := 7) (oi := _) (v := _) rfl (by kernel_rfl) (by kernel_rfl) (by kernel_rfl) (fun _ _ _ h => h) (Or.inl ⟨?_, ?_⟩) (by assumption) ?_
                rotate_left
                all_goals (try simp only [List.getElem_toArray, List.getElem_cons_succ, List.getElem_cons_zero])
                · rfl
                · intro W hSw; (try dsimp only at hSw); go_simp; (try with_reducible rfl)
                try simp only [Act.put, List.setIfInBounds_toArray, List.set_cons_zero, List.set_cons_succ]
                refine' wpAnyH_take (i := 8) (oi := _) (v := _) rfl (by kernel_rfl) (by kernel_rfl) (by kernel_rfl) (fun _ _ _ h => h) (Or.inl ⟨?_, ?_⟩) (by assumption) ?_
                rotate_left
                all_goals (try simp only [List.getElem_toArray, List.getElem_cons_succ, List.getElem_cons_zero])
                · rfl
                · intro W hSw; (try dsimp only at hSw); go_simp; (try with_reducible rfl)
                try simp only [Act.put, List.setIfInBounds_toArray, List.set_cons_zero, List.set_cons_succ]
                refine' wpAnyH_take (i := 9) (oi := _) (v := _) rfl (by kernel_rfl) (by kernel_rfl) (by kernel_rfl) (fun _ _ _ h => h) (Or.inl ⟨?_, ?_⟩) (by assumption) ?_
                rotate_left
                all_goals (try simp only [List.getElem_toArray, List.getElem_cons_succ, List.getElem_cons_zero])
                · rfl
                · intro W hSw; (try dsimp only at hSw); go_simp; (try with_reducible rfl)
                try simp only [Act.put, List.setIfInBounds_toArray, List.set_cons_zero, List.set_cons_succ]
                refine wpAnyH_ready (rs := [4]) (by kernel_rfl) (by simp) ?_
                refine AllReadyH.cons (o := _) rfl (fun K hK => ?_) AllReadyH.nil
                try simp only [List.getElem_toArray, List.getElem_cons_succ, List.getElem_cons_zero]
                go_simp
                refine HBYT.out.mono ?_
                rintro e w7 ⟨⟨v7, rfl, ho7⟩, hb7⟩
                obtain ⟨a7, n7, c7, rfl, hn7, ho7⟩ := ho7.slice
                have kb1 := conv8 ho7.reads hBd.out
                have kb2 := conv8 (hsd.out.below hb7) hBd.out
                rw [HS.out] at kb1 kb2
                have HB7 := Lib.hid hb7
                clear ho7 hb7 hn7
                go_wp2_with fail
                refine hK.out _ _ kb2 (fun hHeld => ?_)
                clear hK K
                try simp only [Act.put, List.setIfInBounds_toArray, List.set_cons_zero, List.set_cons_succ]
                refine wpAnyH_ready (rs := [5]) (by kernel_rfl) (by simp) ?_
                refine AllReadyH.cons (o := _) rfl (fun K hK => ?_) AllReadyH.nil
                try simp only [List.getElem_toArray, List.getElem_cons_succ, List.getElem_cons_zero]
                go_simp
                refine hK.out _ _ kb2 (fun hHeld => ?_)
                clear hK K
                try simp only [Act.put, List.setIfInBounds_toArray, List.set_cons_zero, List.set_cons_succ]
                refine' wpAnyH_take (i := 10) (oi := _) (v := _) rfl (by kernel_rfl) (by kernel_rfl) (by kernel_rfl) (fun _ _ _ h => h) (Or.inl ⟨?_, ?_⟩) (by assumption) ?_
                rotate_left
                all_goals (try simp only [List.getElem_toArray, List.getElem_cons_succ, List.getElem_cons_zero])
                · rfl
                · intro W hSw; (try dsimp only at hSw); go_simp; (try with_reducible rfl)
                try simp only [Act.put, List.setIfInBounds_toArray, List.set_cons_zero, List.set_cons_succ]
                refine' wpAnyH_take (i := 11) (oi := _) (v := _) rfl (by kernel_rfl) (by kernel_rfl) (by kernel_rfl) (fun _ _ _ h => h) (Or.inl ⟨?_, ?_⟩) (by assumption) ?_
                rotate_left
                all_goals (try simp only [List.getElem_toArray, List.getElem_cons_succ, List.getElem_cons_zero])
                · rfl
                · intro W hSw; (try dsimp only at hSw); go_simp; (try with_reducible rfl)
                try simp only [Act.put, List.setIfInBounds_toArray, List.set_cons_zero, List.set_cons_succ]
                refine wpAnyH_done (by kernel_rfl) ?_ _
                have hb := ((Below.refl w6.heap.size w6).drew).trans HB7.out
                replace H0 := Lib.hid (H0.out.trans (hb.mono H0.out.size))
                replace HX := Lib.hid (HX.out.below hb)
                replace HY := Lib.hid (HY.out.below hb)
                clear hb kb0 kb1 kb2
                go_wp2_with fail
                rcases Nat.lt_trichotomy n m with hlt | heq | hgt
                · have HLT := Lib.hid hlt
                  clear hlt
                  refine (sub_less HX.out HY.out (fun h => by have := HLT.out; omega)).mono ?_
                  rintro e w8 ⟨⟨v8, rfl⟩, hb⟩
                  replace H0 := Lib.hid (H0.out.trans (hb.mono H0.out.size))
                  replace HX := Lib.hid (HX.out.below hb)
                  replace HY := Lib.hid (HY.out.below hb)
                  clear hb
                  go_wp2_with fail
                  refine (cmp_nat HX.out HY.out (-1) (ordN_lt HLT.out).symm).mono ?_
                  rintro e w9 ⟨rfl, hb⟩
                  replace H0 := Lib.hid (H0.out.trans (hb.mono H0.out.size))
                  replace HX := Lib.hid (HX.out.below hb)
                  replace HY := Lib.hid (HY.out.below hb)
                  clear hb
                  go_wp2_with fail
                  refine (cmp_nat HY.out HX.out (1) (ordN_gt HLT.out).symm).mono ?_
                  rintro e w10 ⟨rfl, hb⟩
                  replace H0 := Lib.hid (H0.out.trans (hb.mono H0.out.size))
                  clear hb
                  go_wp2_with fail
                  go_ret
                  exact ⟨rfl, H0.out⟩
                · subst heq
                  refine (sub_nat HX.out HY.out t0.out (Nat.le_refl _)).mono ?_
                  rintro e w8 ⟨⟨v8, rfl, hd⟩, hb⟩
                  obtain ⟨da, dn, dc, rfl, hdr⟩ := hd
                  obtain rfl : dn = 0 := by rw [← hdr.length, Nat.sub_self, show nat32 0 = [] from natB_zero _]; rfl
                  clear hdr
                  replace H0 := Lib.hid (H0.out.trans (hb.mono H0.out.size))
                  replace HX := Lib.hid (HX.out.below hb)
                  replace HY := Lib.hid (HY.out.below hb)
                  clear hb
                  go_wp2_with fail
                  refine (cmp_nat HX.out HY.out (0) (ordN_eq rfl).symm).mono ?_
                  rintro e w9 ⟨rfl, hb⟩
                  replace H0 := Lib.hid (H0.out.trans (hb.mono H0.out.size))
                  replace HX := Lib.hid (HX.out.below hb)
                  replace HY := Lib.hid (HY.out.below hb)
                  clear hb
                  go_wp2_with fail
                  refine (cmp_nat HY.out HX.out (0) (ordN_eq rfl).symm).mono ?_
                  rintro e w10 ⟨rfl, hb⟩
                  replace H0 := Lib.hid (H0.out.trans (hb.mono H0.out.size))
                  clear hb
                  go_wp2_with fail
                  go_ret
                  exact ⟨rfl, H0.out⟩
                · have HGT := Lib.hid hgt
                  clear hgt
                  refine (sub_nat HX.out HY.out t0.out (by have := HGT.out; omega)).mono ?_
                  rintro e w8 ⟨⟨v8, rfl, hd⟩, hb⟩
                  clear hd
                  replace H0 := Lib.hid (H0.out.trans (hb.mono H0.out.size))
                  replace HX := Lib.hid (HX.out.below hb)
                  replace HY := Lib.hid (HY.out.below hb)
                  clear hb
                  go_wp2_with fail
                  refine (cmp_nat HX.out HY.out (1) (ordN_gt HGT.out).symm).mono ?_
                  rintro e w9 ⟨rfl, hb⟩
                  replace H0 := Lib.hid (H0.out.trans (hb.mono H0.out.size))
                  replace HX := Lib.hid (HX.out.below hb)
                  replace HY := Lib.hid (HY.out.below hb)
                  clear hb
                  go_wp2_with fail
                  refine (cmp_nat HY.out HX.out (-1) (ordN_lt HGT.out).symm).mono ?_
                  rintro e w10 ⟨rfl, hb⟩
                  replace H0 := Lib.hid (H0.out.trans (hb.mono H0.out.size))
                  clear hb
                  go_wp2_with fail
                  go_ret
                  exact ⟨rfl, H0.out⟩
          · obtain ⟨bo2, off2, rfl, _, _⟩ := HB.out.cells (by omega)
            clear hex
            obtain rfl := hz
            by_cases hcbk : cb = k
            · subst hcbk
              go_wp2_with fail
              refine HRD.out.mono ?_
              rintro e w6 ⟨hr, hb⟩
              rw [cutR_small ht.out] at hr
              obtain ⟨v6, rfl, hz6⟩ := hr
              obtain ⟨ua, un, uc, rfl, hun, hz6⟩ := hz6.slice
              replace H0 := Lib.hid (H0.out.trans (hb.mono H0.out.size))
              replace HX := Lib.hid (HX.out.below hb)
              replace HY := Lib.hid (HY.out.below hb)
              replace HB := Lib.hid (HB.out.below hb)
              have HU := Lib.hid (NatC.of hz6)
              have hun8 : un ≤ 4398046511104 := by have := (natB_length (b := 4294967296) (by decide) (valB 256 B.reverse) 256).2 ht.out; rw [hun]; exact Nat.le_trans this (by decide)
              clear hb hz6 hun
              have HSB : Hid (Reads .u8 w6 (some ⟨bo2, off2, none⟩) 0 0 (B.drop cb)) := Lib.hid (by rw [List.drop_eq_nil_of_le (by rw [HB.out.length]; exact Nat.le_refl _)]; exact Reads.empty _ _ _ (by unfold maxLen; omega) (fun h => by cases h))
              have hBd : Hid (Byt (B.drop cb)) := fun x hx => HBy.out x (List.mem_of_mem_drop hx)
              have hbyt := bytes_nat (show NatAt w6.drew _ _ from NatAt.drewN HU.out.at 1) hun8
              rw [show natB 256 (valB 256 B.reverse) = bareN B.reverse from (bareN_eq (by decide) (fun x hx => HBy.out x (List.mem_reverse.1 hx))).symm, hld.out] at hbyt
              have HBYT := Lib.hid hbyt
              clear hbyt
              obtain ⟨S, hS⟩ : ∃ S, strOf (u8s (B.drop cb)) = S := ⟨_, rfl⟩
              have hsd : Hid (Reads .u8 w6.drew _ _ _ (B.drop cb)) := HSB.out.drewN 1
              have kb0 := conv8 hsd.out hBd.out
              rw [hS] at kb0
              have HS := Lib.hid hS
              clear hS
              go_wp2_with fail
              refine wp_region_held_drew (S := fun W => (convert 24 9 (.slice (some ⟨bo2, off2, none⟩) 0 0)).run Try.prog W = .ok (.string S) W) (by kernel_rfl) kb0 (fun hHeld => ?_)
              refine' wpAnyH_take (i := 0) (oi := _) (v := _) rfl (by kernel_rfl) (by kernel_rfl) (by kernel_rfl) (fun _ _ _ h => h) (Or.inl ⟨?_, ?_⟩) (by assumption) ?_
              rotate_left
              all_goals (try simp only [List.getElem_toArray, List.getElem_cons_succ, List.getElem_cons_zero])
              · rfl
              · intro W hSw; (try dsimp only at hSw); go_simp; (try with_reducible rfl)
              try simp only [Act.put, List.setIfInBounds_toArray, List.set_cons_zero, List.set_cons_succ]
              refine' wpAnyH_take (i := 1) (oi := _) (v := _) rfl (by kernel_rfl) (by kernel_rfl) (by kernel_rfl) (fun _ _ _ h => h) (Or.inl ⟨?_, ?_⟩) (by assumption) ?_
              rotate_left
              all_goals (try simp only [List.getElem_toArray, List.getElem_cons_succ, List.getElem_cons_zero])
              · rfl
              · intro W hSw; (try dsimp only at hSw); go_simp; (try with_reducible rfl)
              try simp only [Act.put, List.setIfInBounds_toArray, List.set_cons_zero, List.set_cons_succ]
              refine' wpAnyH_take (i := 2) (oi := _) (v := _) rfl (by kernel_rfl) (by kernel_rfl) (by kernel_rfl) (fun _ _ _ h => h) (Or.inl ⟨?_, ?_⟩) (by assumption) ?_
              rotate_left
              all_goals (try simp only [List.getElem_toArray, List.getElem_cons_succ, List.getElem_cons_zero])
              · rfl
              · intro W hSw; (try dsimp only at hSw); go_simp; (try with_reducible rfl)
              try simp only [Act.put, List.setIfInBounds_toArray, List.set_cons_zero, List.set_cons_succ]
              refine' wpAnyH_take (i := 3) (oi := _) (v := _) rfl (by kernel_rfl) (by kernel_rfl) (by kernel_rfl) (fun _ _ _ h => h) (Or.inl ⟨?_, ?_⟩) (by assumption) ?_
              rotate_left
              all_goals (try simp only [List.getElem_toArray, List.getElem_cons_succ, List.getElem_cons_zero])
              · rfl
              · intro W hSw; (try dsimp only at hSw); go_simp; (try with_reducible rfl)
              try simp only [Act.put, List.setIfInBounds_toArray, List.set_cons_zero, List.set_cons_succ]
              refine' wpAnyH_take (i := 6) (oi := _) (v := _) rfl (by kernel_rfl) (by kernel_rfl) (by kernel_rfl) (fun _ _ _ h => h) (Or.inl ⟨?_, ?_⟩) (by assumption) ?_
              rotate_left
              all_goals (try simp only [List.getElem_toArray, List.getElem_cons_succ, List.getElem_cons_zero])
              · rfl
              · intro W hSw; (try dsimp only at hSw); go_simp; (try with_reducible rfl)
              try simp only [Act.put, List.setIfInBounds_toArray, List.set_cons_zero, List.set_cons_succ]
              refine' wpAnyH_take (i := 7) (oi := _) (v := _) rfl (by kernel_rfl) (by kernel_rfl) (by kernel_rfl) (fun _ _ _ h => h) (Or.inl ⟨?_, ?_⟩) (by assumption) ?_
              rotate_left
              all_goals (try simp only [List.getElem_toArray, List.getElem_cons_succ, List.getElem_cons_zero])
              · rfl
              · intro W hSw; (try dsimp only at hSw); go_simp; (try with_reducible rfl)
              try simp only [Act.put, List.setIfInBounds_toArray, List.set_cons_zero, List.set_cons_succ]
              refine' wpAnyH_take (i := 8) (oi := _) (v := _) rfl (by kernel_rfl) (by kernel_rfl) (by kernel_rfl) (fun _ _ _ h => h) (Or.inl ⟨?_, ?_⟩) (by assumption) ?_
              rotate_left
              all_goals (try simp only [List.getElem_toArray, List.getElem_cons_succ, List.getElem_cons_zero])
              · rfl
              · intro W hSw; (try dsimp only at hSw); go_simp; (try with_reducible rfl)
              try simp only [Act.put, List.setIfInBounds_toArray, List.set_cons_zero, List.set_cons_succ]
              refine' wpAnyH_take (i := 9) (oi := _) (v := _) rfl (by kernel_rfl) (by kernel_rfl) (by kernel_rfl) (fun _ _ _ h => h) (Or.inl ⟨?_, ?_⟩) (by assumption) ?_
              rotate_left
              all_goals (try simp only [List.getElem_toArray, List.getElem_cons_succ, List.getElem_cons_zero])
              · rfl
              · intro W hSw; (try dsimp only at hSw); go_simp; (try with_reducible rfl)
              try simp only [Act.put, List.setIfInBounds_toArray, List.set_cons_zero, List.set_cons_succ]
              refine wpAnyH_ready (rs := [4]) (by kernel_rfl) (by simp) ?_
              refine AllReadyH.cons (o := _) rfl (fun K hK => ?_) AllReadyH.nil
              try simp only [List.getElem_toArray, List.getElem_cons_succ, List.getElem_cons_zero]
              go_simp
              refine HBYT.out.mono ?_
              rintro e w7 ⟨⟨v7, rfl, ho7⟩, hb7⟩
              obtain ⟨a7, n7, c7, rfl, hn7, ho7⟩ := ho7.slice
              have kb1 := conv8 ho7.reads hBd.out
              have kb2 := conv8 (hsd.out.below hb7) hBd.out
              rw [HS.out] at kb1 kb2
              have HB7 := Lib.hid hb7
              clear ho7 hb7 hn7
              go_wp2_with fail
              refine hK.out _ _ kb2 (fun hHeld => ?_)
              clear hK K
              try simp only [Act.put, List.setIfInBounds_toArray, List.set_cons_zero, List.set_cons_succ]
              refine wpAnyH_ready (rs := [5]) (by kernel_rfl) (by simp) ?_
              refine AllReadyH.cons (o := _) rfl (fun K hK => ?_) AllReadyH.nil
              try simp only [List.getElem_toArray, List.getElem_cons_succ, List.getElem_cons_zero]
              go_simp
              refine hK.out _ _ kb2 (fun hHeld => ?_)
              clear hK K
              try simp only [Act.put, List.setIfInBounds_toArray, List.set_cons_zero, List.set_cons_succ]
              refine' wpAnyH_take (i := 10) (oi := _) (v := _) rfl (by kernel_rfl) (by kernel_rfl) (by kernel_rfl) (fun _ _ _ h => h) (Or.inl ⟨?_, ?_⟩) (by assumption) ?_
              rotate_left
              all_goals (try simp only [List.getElem_toArray, List.getElem_cons_succ, List.getElem_cons_zero])
              · rfl
              · intro W hSw; (try dsimp only at hSw); go_simp; (try with_reducible rfl)
              try simp only [Act.put, List.setIfInBounds_toArray, List.set_cons_zero, List.set_cons_succ]
              refine' wpAnyH_take (i := 11) (oi := _) (v := _) rfl (by kernel_rfl) (by kernel_rfl) (by kernel_rfl) (fun _ _ _ h => h) (Or.inl ⟨?_, ?_⟩) (by assumption) ?_
              rotate_left
              all_goals (try simp only [List.getElem_toArray, List.getElem_cons_succ, List.getElem_cons_zero])
              · rfl
              · intro W hSw; (try dsimp only at hSw); go_simp; (try with_reducible rfl)
              try simp only [Act.put, List.setIfInBounds_toArray, List.set_cons_zero, List.set_cons_succ]
              refine wpAnyH_done (by kernel_rfl) ?_ _
              have hb := ((Below.refl w6.heap.size w6).drew).trans HB7.out
              replace H0 := Lib.hid (H0.out.trans (hb.mono H0.out.size))
              replace HX := Lib.hid (HX.out.below hb)
              replace HY := Lib.hid (HY.out.below hb)
              clear hb kb0 kb1 kb2
              go_wp2_with fail
              rcases Nat.lt_trichotomy n m with hlt | heq | hgt
              · have HLT := Lib.hid hlt
                clear hlt
                refine (sub_less HX.out HY.out (fun h => by have := HLT.out; omega)).mono ?_
                rintro e w8 ⟨⟨v8, rfl⟩, hb⟩
                replace H0 := Lib.hid (H0.out.trans (hb.mono H0.out.size))
                replace HX := Lib.hid (HX.out.below hb)
                replace HY := Lib.hid (HY.out.below hb)
                clear hb
                go_wp2_with fail
                refine (cmp_nat HX.out HY.out (-1) (ordN_lt HLT.out).symm).mono ?_
                rintro e w9 ⟨rfl, hb⟩
                replace H0 := Lib.hid (H0.out.trans (hb.mono H0.out.size))
                replace HX := Lib.hid (HX.out.below hb)
                replace HY := Lib.hid (HY.out.below hb)
                clear hb
                go_wp2_with fail
                refine (cmp_nat HY.out HX.out (1) (ordN_gt HLT.out).symm).mono ?_
                rintro e w10 ⟨rfl, hb⟩
                replace H0 := Lib.hid (H0.out.trans (hb.mono H0.out.size))
                clear hb
                go_wp2_with fail
                go_ret
                exact ⟨rfl, H0.out⟩
              · subst heq
                refine (sub_nat HX.out HY.out t0.out (Nat.le_refl _)).mono ?_
                rintro e w8 ⟨⟨v8, rfl, hd⟩, hb⟩
                obtain ⟨da, dn, dc, rfl, hdr⟩ := hd
                obtain rfl : dn = 0 := by rw [← hdr.length, Nat.sub_self, show nat32 0 = [] from natB_zero _]; rfl
                clear hdr
                replace H0 := Lib.hid (H0.out.trans (hb.mono H0.out.size))
                replace HX := Lib.hid (HX.out.below hb)
                replace HY := Lib.hid (HY.out.below hb)
                clear hb
                go_wp2_with fail
                refine (cmp_nat HX.out HY.out (0) (ordN_eq rfl).symm).mono ?_
                rintro e w9 ⟨rfl, hb⟩
                replace H0 := Lib.hid (H0.out.trans (hb.mono H0.out.size))
                replace HX := Lib.hid (HX.out.below hb)
                replace HY := Lib.hid (HY.out.below hb)
                clear hb
                go_wp2_with fail
                refine (cmp_nat HY.out HX.out (0) (ordN_eq rfl).symm).mono ?_
                rintro e w10 ⟨rfl, hb⟩
                replace H0 := Lib.hid (H0.out.trans (hb.mono H0.out.size))
                clear hb
                go_wp2_with fail
                go_ret
                exact ⟨rfl, H0.out⟩
              · have HGT := Lib.hid hgt
                clear hgt
                refine (sub_nat HX.out HY.out t0.out (by have := HGT.out; omega)).mono ?_
                rintro e w8 ⟨⟨v8, rfl, hd⟩, hb⟩
                clear hd
                replace H0 := Lib.hid (H0.out.trans (hb.mono H0.out.size))
                replace HX := Lib.hid (HX.out.below hb)
                replace HY := Lib.hid (HY.out.below hb)
                clear hb
                go_wp2_with fail
                refine (cmp_nat HX.out HY.out (1) (ordN_gt HGT.out).symm).mono ?_
                rintro e w9 ⟨rfl, hb⟩
                replace H0 := Lib.hid (H0.out.trans (hb.mono H0.out.size))
                replace HX := Lib.hid (HX.out.below hb)
                replace HY := Lib.hid (HY.out.below hb)
                clear hb
                go_wp2_with fail
                refine (cmp_nat HY.out HX.out (-1) (ordN_lt HGT.out).symm).mono ?_
                rintro e w10 ⟨rfl, hb⟩
                replace H0 := Lib.hid (H0.out.trans (hb.mono H0.out.size))
                clear hb
                go_wp2_with fail
                go_ret
                exact ⟨rfl, H0.out⟩
            · go_wp2_with fail
              refine HRD.out.mono ?_
              rintro e w6 ⟨hr, hb⟩
              rw [cutR_small ht.out] at hr
              obtain ⟨v6, rfl, hz6⟩ := hr
              obtain ⟨ua, un, uc, rfl, hun, hz6⟩ := hz6.slice
              replace H0 := Lib.hid (H0.out.trans (hb.mono H0.out.size))
              replace HX := Lib.hid (HX.out.below hb)
              replace HY := Lib.hid (HY.out.below hb)
              replace HB := Lib.hid (HB.out.below hb)
              have HU := Lib.hid (NatC.of hz6)
              have hun8 : un ≤ 4398046511104 := by have := (natB_length (b := 4294967296) (by decide) (valB 256 B.reverse) 256).2 ht.out; rw [hun]; exact Nat.le_trans this (by decide)
              clear hb hz6 hun
              have HSB : Hid (Reads .u8 w6 (some ⟨bo2, off2 + k, none⟩) 0 (cb - k) (B.drop k)) := Lib.hid (by rw [List.drop_eq_nil_of_le (by rw [HB.out.length]; exact Nat.le_refl _)]; exact Reads.empty _ _ _ (by have := HB.out.max; omega) (fun h => by cases h))
              have hBd : Hid (Byt (B.drop k)) := fun x hx => HBy.out x (List.mem_of_mem_drop hx)
              have hbyt := bytes_nat (show NatAt w6.drew _ _ from NatAt.drewN HU.out.at 1) hun8
              rw [show natB 256 (valB 256 B.reverse) = bareN B.reverse from (bareN_eq (by decide) (fun x hx => HBy.out x (List.mem_reverse.1 hx))).symm, hld.out] at hbyt
              have HBYT := Lib.hid hbyt
              clear hbyt
              obtain ⟨S, hS⟩ : ∃ S, strOf (u8s (B.drop k)) = S := ⟨_, rfl⟩
              have hsd : Hid (Reads .u8 w6.drew _ _ _ (B.drop k)) := HSB.out.drewN 1
              have kb0 := conv8 hsd.out hBd.out
              rw [hS] at kb0
              have HS := Lib.hid hS
              clear hS
              go_wp2_with fail
              refine wp_region_held_drew (S := fun W => (convert 24 9 (.slice (some ⟨bo2, off2 + k, none⟩) 0 (cb - k))).run Try.prog W = .ok (.string S) W) (by kernel_rfl) kb0 (fun hHeld => ?_)
              refine' wpAnyH_take (i := 0) (oi := _) (v := _) rfl (by kernel_rfl) (by kernel_rfl) (by kernel_rfl) (fun _ _ _ h => h) (Or.inl ⟨?_, ?_⟩) (by assumption) ?_
              rotate_left
              all_goals (try simp only [List.getElem_toArray, List.getElem_cons_succ, List.getElem_cons_zero])
              · rfl
              · intro W hSw; (try dsimp only at hSw); go_simp; (try with_reducible rfl)
              try simp only [Act.put, List.setIfInBounds_toArray, List.set_cons_zero, List.set_cons_succ]
              refine' wpAnyH_take (i := 1) (oi := _) (v := _) rfl (by kernel_rfl) (by kernel_rfl) (by kernel_rfl) (fun _ _ _ h => h) (Or.inl ⟨?_, ?_⟩) (by assumption) ?_
              rotate_left
              all_goals (try simp only [List.getElem_toArray, List.getElem_cons_succ, List.getElem_cons_zero])
              · rfl
              · intro W hSw; (try dsimp only at hSw); go_simp; (try with_reducible rfl)
              try simp only [Act.put, List.setIfInBounds_toArray, List.set_cons_zero, List.set_cons_succ]
              refine' wpAnyH_take (i := 2) (oi := _) (v := _) rfl (by kernel_rfl) (by kernel_rfl) (by kernel_rfl) (fun _ _ _ h => h) (Or.inl ⟨?_, ?_⟩) (by assumption) ?_
              rotate_left
              all_goals (try simp only [List.getElem_toArray, List.getElem_cons_succ, List.getElem_cons_zero])
              · rfl
              · intro W hSw; (try dsimp only at hSw); go_simp; (try with_reducible rfl)
              try simp only [Act.put, List.setIfInBounds_toArray, List.set_cons_zero, List.set_cons_succ]
              refine' wpAnyH_take (i := 3) (oi := _) (v := _) rfl (by kernel_rfl) (by kernel_rfl) (by kernel_rfl) (fun _ _ _ h => h) (Or.inl ⟨?_, ?_⟩) (by assumption) ?_
              rotate_left
              all_goals (try simp only [List.getElem_toArray, List.getElem_cons_succ, List.getElem_cons_zero])
              · rfl
              · intro W hSw; (try dsimp only at hSw); go_simp; (try with_reducible rfl)
              try simp only [Act.put, List.setIfInBounds_toArray, List.set_cons_zero, List.set_cons_succ]
              refine' wpAnyH_take (i := 6) (oi := _) (v := _) rfl (by kernel_rfl) (by kernel_rfl) (by kernel_rfl) (fun _ _ _ h => h) (Or.inl ⟨?_, ?_⟩) (by assumption) ?_
              rotate_left
              all_goals (try simp only [List.getElem_toArray, List.getElem_cons_succ, List.getElem_cons_zero])
              · rfl
              · intro W hSw; (try dsimp only at hSw); go_simp; (try with_reducible rfl)
              try simp only [Act.put, List.setIfInBounds_toArray, List.set_cons_zero, List.set_cons_succ]
              refine' wpAnyH_take (i := 7) (oi := _) (v := _) rfl (by kernel_rfl) (by kernel_rfl) (by kernel_rfl) (fun _ _ _ h => h) (Or.inl ⟨?_, ?_⟩) (by assumption) ?_
              rotate_left
              all_goals (try simp only [List.getElem_toArray, List.getElem_cons_succ, List.getElem_cons_zero])
              · rfl
              · intro W hSw; (try dsimp only at hSw); go_simp; (try with_reducible rfl)
              try simp only [Act.put, List.setIfInBounds_toArray, List.set_cons_zero, List.set_cons_succ]
              refine' wpAnyH_take (i := 8) (oi := _) (v := _) rfl (by kernel_rfl) (by kernel_rfl) (by kernel_rfl) (fun _ _ _ h => h) (Or.inl ⟨?_, ?_⟩) (by assumption) ?_
              rotate_left
              all_goals (try simp only [List.getElem_toArray, List.getElem_cons_succ, List.getElem_cons_zero])
              · rfl
              · intro W hSw; (try dsimp only at hSw); go_simp; (try with_reducible rfl)
              try simp only [Act.put, List.setIfInBounds_toArray, List.set_cons_zero, List.set_cons_succ]
              refine' wpAnyH_take (i := 9) (oi := _) (v := _) rfl (by kernel_rfl) (by kernel_rfl) (by kernel_rfl) (fun _ _ _ h => h) (Or.inl ⟨?_, ?_⟩) (by assumption) ?_
              rotate_left
              all_goals (try simp only [List.getElem_toArray, List.getElem_cons_succ, List.getElem_cons_zero])
              · rfl
              · intro W hSw; (try dsimp only at hSw); go_simp; (try with_reducible rfl)
              try simp only [Act.put, List.setIfInBounds_toArray, List.set_cons_zero, List.set_cons_succ]
              refine wpAnyH_ready (rs := [4]) (by kernel_rfl) (by simp) ?_
              refine AllReadyH.cons (o := _) rfl (fun K hK => ?_) AllReadyH.nil
              try simp only [List.getElem_toArray, List.getElem_cons_succ, List.getElem_cons_zero]
              go_simp
              refine HBYT.out.mono ?_
              rintro e w7 ⟨⟨v7, rfl, ho7⟩, hb7⟩
              obtain ⟨a7, n7, c7, rfl, hn7, ho7⟩ := ho7.slice
              have kb1 := conv8 ho7.reads hBd.out
              have kb2 := conv8 (hsd.out.below hb7) hBd.out
              rw [HS.out] at kb1 kb2
              have HB7 := Lib.hid hb7
              clear ho7 hb7 hn7
              go_wp2_with fail
              refine hK.out _ _ kb2 (fun hHeld => ?_)
              clear hK K
              try simp only [Act.put, List.setIfInBounds_toArray, List.set_cons_zero, List.set_cons_succ]
              refine wpAnyH_ready (rs := [5]) (by kernel_rfl) (by simp) ?_
              refine AllReadyH.cons (o := _) rfl (fun K hK => ?_) AllReadyH.nil
              try simp only [List.getElem_toArray, List.getElem_cons_succ, List.getElem_cons_zero]
              go_simp
              refine hK.out _ _ kb2 (fun hHeld => ?_)
              clear hK K
              try simp only [Act.put, List.setIfInBounds_toArray, List.set_cons_zero, List.set_cons_succ]
              refine' wpAnyH_take (i := 10) (oi := _) (v := _) rfl (by kernel_rfl) (by kernel_rfl) (by kernel_rfl) (fun _ _ _ h => h) (Or.inl ⟨?_, ?_⟩) (by assumption) ?_
              rotate_left
              all_goals (try simp only [List.getElem_toArray, List.getElem_cons_succ, List.getElem_cons_zero])
              · rfl
              · intro W hSw; (try dsimp only at hSw); go_simp; (try with_reducible rfl)
              try simp only [Act.put, List.setIfInBounds_toArray, List.set_cons_zero, List.set_cons_succ]
              refine' wpAnyH_take (i := 11) (oi := _) (v := _) rfl (by kernel_rfl) (by kernel_rfl) (by kernel_rfl) (fun _ _ _ h => h) (Or.inl ⟨?_, ?_⟩) (by assumption) ?_
              rotate_left
              all_goals (try simp only [List.getElem_toArray, List.getElem_cons_succ, List.getElem_cons_zero])
              · rfl
              · intro W hSw; (try dsimp only at hSw); go_simp; (try with_reducible rfl)
              try simp only [Act.put, List.setIfInBounds_toArray, List.set_cons_zero, List.set_cons_succ]
              refine wpAnyH_done (by kernel_rfl) ?_ _
              have hb := ((Below.refl w6.heap.size w6).drew).trans HB7.out
              replace H0 := Lib.hid (H0.out.trans (hb.mono H0.out.size))
              replace HX := Lib.hid (HX.out.below hb)
              replace HY := Lib.hid (HY.out.below hb)
              clear hb kb0 kb1 kb2
              go_wp2_with fail
              rcases Nat.lt_trichotomy n m with hlt | heq | hgt
              · have HLT := Lib.hid hlt
                clear hlt
                refine (sub_less HX.out HY.out (fun h => by have := HLT.out; omega)).mono ?_
                rintro e w8 ⟨⟨v8, rfl⟩, hb⟩
                replace H0 := Lib.hid (H0.out.trans (hb.mono H0.out.size))
                replace HX := Lib.hid (HX.out.below hb)
                replace HY := Lib.hid (HY.out.below hb)
                clear hb
                go_wp2_with fail
                refine (cmp_nat HX.out HY.out (-1) (ordN_lt HLT.out).symm).mono ?_
                rintro e w9 ⟨rfl, hb⟩
                replace H0 := Lib.hid (H0.out.trans (hb.mono H0.out.size))
                replace HX := Lib.hid (HX.out.below hb)
                replace HY := Lib.hid (HY.out.below hb)
                clear hb
                go_wp2_with fail
                refine (cmp_nat HY.out HX.out (1) (ordN_gt HLT.out).symm).mono ?_
                rintro e w10 ⟨rfl, hb⟩
                replace H0 := Lib.hid (H0.out.trans (hb.mono H0.out.size))
                clear hb
                go_wp2_with fail
                go_ret
                exact ⟨rfl, H0.out⟩
              · subst heq
                refine (sub_nat HX.out HY.out t0.out (Nat.le_refl _)).mono ?_
                rintro e w8 ⟨⟨v8, rfl, hd⟩, hb⟩
                obtain ⟨da, dn, dc, rfl, hdr⟩ := hd
                obtain rfl : dn = 0 := by rw [← hdr.length, Nat.sub_self, show nat32 0 = [] from natB_zero _]; rfl
                clear hdr
                replace H0 := Lib.hid (H0.out.trans (hb.mono H0.out.size))
                replace HX := Lib.hid (HX.out.below hb)
                replace HY := Lib.hid (HY.out.below hb)
                clear hb
                go_wp2_with fail
                refine (cmp_nat HX.out HY.out (0) (ordN_eq rfl).symm).mono ?_
                rintro e w9 ⟨rfl, hb⟩
                replace H0 := Lib.hid (H0.out.trans (hb.mono H0.out.size))
                replace HX := Lib.hid (HX.out.below hb)
                replace HY := Lib.hid (HY.out.below hb)
                clear hb
                go_wp2_with fail
                refine (cmp_nat HY.out HX.out (0) (ordN_eq rfl).symm).mono ?_
                rintro e w10 ⟨rfl, hb⟩
                replace H0 := Lib.hid (H0.out.trans (hb.mono H0.out.size))
                clear hb
                go_wp2_with fail
                go_ret
                exact ⟨rfl, H0.out⟩
              · have HGT := Lib.hid hgt
                clear hgt
                refine (sub_nat HX.out HY.out t0.out (by have := HGT.out; omega)).mono ?_
                rintro e w8 ⟨⟨v8, rfl, hd⟩, hb⟩
                clear hd
                replace H0 := Lib.hid (H0.out.trans (hb.mono H0.out.size))
                replace HX := Lib.hid (HX.out.below hb)
                replace HY := Lib.hid (HY.out.below hb)
                clear hb
                go_wp2_with fail
                refine (cmp_nat HX.out HY.out (1) (ordN_gt HGT.out).symm).mono ?_
                rintro e w9 ⟨rfl, hb⟩
                replace H0 := Lib.hid (H0.out.trans (hb.mono H0.out.size))
                replace HX := Lib.hid (HX.out.below hb)
                replace HY := Lib.hid (HY.out.below hb)
                clear hb
                go_wp2_with fail
                refine (cmp_nat HY.out HX.out (-1) (ordN_lt HGT.out).symm).mono ?_
                rintro e w10 ⟨rfl, hb⟩
                replace H0 := Lib.hid (H0.out.trans (hb.mono H0.out.size))
                clear hb
                go_wp2_with fail
                go_ret
                exact ⟨rfl, H0.out⟩
        · have hy3 : ((y2 : Int) == 0) = false := by simp; omega
          have hle := HB.out.le
          have hcbk : ¬ cb = k := by omega
          clear hex
          go_wp2_with fail
          refine HRD.out.mono ?_
          rintro e w6 ⟨hr, hb⟩
          rw [cutR_small ht.out] at hr
          obtain ⟨v6, rfl, hz6⟩ := hr
          obtain ⟨ua, un, uc, rfl, hun, hz6⟩ := hz6.slice
          replace H0 := Lib.hid (H0.out.trans (hb.mono H0.out.size))
          replace HX := Lib.hid (HX.out.below hb)
          replace HY := Lib.hid (HY.out.below hb)
          replace HB := Lib.hid (HB.out.below hb)
          have HU := Lib.hid (NatC.of hz6)
          have hun8 : un ≤ 4398046511104 := by have := (natB_length (b := 4294967296) (by decide) (valB 256 B.reverse) 256).2 ht.out; rw [hun]; exact Nat.le_trans this (by decide)
          clear hb hz6 hun
          have HSB := Lib.hid (HB.out.dropN hlt2)
          have hBd : Hid (Byt (B.drop k)) := fun x hx => HBy.out x (List.mem_of_mem_drop hx)
          have hbyt := bytes_nat (show NatAt w6.drew _ _ from NatAt.drewN HU.out.at 1) hun8
          rw [show natB 256 (valB 256 B.reverse) = bareN B.reverse from (bareN_eq (by decide) (fun x hx => HBy.out x (List.mem_reverse.1 hx))).symm, hld.out] at hbyt
          have HBYT := Lib.hid hbyt
          clear hbyt
          obtain ⟨S, hS⟩ : ∃ S, strOf (u8s (B.drop k)) = S := ⟨_, rfl⟩
          have hsd : Hid (Reads .u8 w6.drew _ _ _ (B.drop k)) := HSB.out.drewN 1
          have kb0 := conv8 hsd.out hBd.out
          rw [hS] at kb0
          have HS := Lib.hid hS
          clear hS
          go_wp2_with fail
          refine wp_region_held_drew (S := fun W => (convert 24 9 (.slice (some ⟨bo2, off2 + k, none⟩) (lb - k) (cb - k))).run Try.prog W = .ok (.string S) W) (by kernel_rfl) kb0 (fun hHeld => ?_)
          refine' wpAnyH_take (i := 0) (oi := _) (v := _) rfl (by kernel_rfl) (by kernel_rfl) (by kernel_rfl) (fun _ _ _ h => h) (Or.inl ⟨?_, ?_⟩) (by assumption) ?_
          rotate_left
          all_goals (try simp only [List.getElem_toArray, List.getElem_cons_succ, List.getElem_cons_zero])
          · rfl
          · intro W hSw; (try dsimp only at hSw); go_simp; (try with_reducible rfl)
          try simp only [Act.put, List.setIfInBounds_toArray, List.set_cons_zero, List.set_cons_succ]
          refine' wpAnyH_take (i := 1) (oi := _) (v := _) rfl (by kernel_rfl) (by kernel_rfl) (by kernel_rfl) (fun _ _ _ h => h) (Or.inl ⟨?_, ?_⟩) (by assumption) ?_
          rotate_left
          all_goals (try simp only [List.getElem_toArray, List.getElem_cons_succ, List.getElem_cons_zero])
          · rfl
          · intro W hSw; (try dsimp only at hSw); go_simp; (try with_reducible rfl)
          try simp only [Act.put, List.setIfInBounds_toArray, List.set_cons_zero, List.set_cons_succ]
          refine' wpAnyH_take (i := 2) (oi := _) (v := _) rfl (by kernel_rfl) (by kernel_rfl) (by kernel_rfl) (fun _ _ _ h => h) (Or.inl ⟨?_, ?_⟩) (by assumption) ?_
          rotate_left
          all_goals (try simp only [List.getElem_toArray, List.getElem_cons_succ, List.getElem_cons_zero])
          · rfl
          · intro W hSw; (try dsimp only at hSw); go_simp; (try with_reducible rfl)
          try simp only [Act.put, List.setIfInBounds_toArray, List.set_cons_zero, List.set_cons_succ]
          refine' wpAnyH_take (i := 3) (oi := _) (v := _) rfl (by kernel_rfl) (by kernel_rfl) (by kernel_rfl) (fun _ _ _ h => h) (Or.inl ⟨?_, ?_⟩) (by assumption) ?_
          rotate_left
          all_goals (try simp only [List.getElem_toArray, List.getElem_cons_succ, List.getElem_cons_zero])
          · rfl
          · intro W hSw; (try dsimp only at hSw); go_simp; (try with_reducible rfl)
          try simp only [Act.put, List.setIfInBounds_toArray, List.set_cons_zero, List.set_cons_succ]
          refine' wpAnyH_take (i := 6) (oi := _) (v := _) rfl (by kernel_rfl) (by kernel_rfl) (by kernel_rfl) (fun _ _ _ h => h) (Or.inl ⟨?_, ?_⟩) (by assumption) ?_
          rotate_left
          all_goals (try simp only [List.getElem_toArray, List.getElem_cons_succ, List.getElem_cons_zero])
          · rfl
          · intro W hSw; (try dsimp only at hSw); go_simp; (try with_reducible rfl)
          try simp only [Act.put, List.setIfInBounds_toArray, List.set_cons_zero, List.set_cons_succ]
          refine' wpAnyH_take (i := 7) (oi := _) (v := _) rfl (by kernel_rfl) (by kernel_rfl) (by kernel_rfl) (fun _ _ _ h => h) (Or.inl ⟨?_, ?_⟩) (by assumption) ?_
          rotate_left
          all_goals (try simp only [List.getElem_toArray, List.getElem_cons_succ, List.getElem_cons_zero])
          · rfl
          · intro W hSw; (try dsimp only at hSw); go_simp; (try with_reducible rfl)
          try simp only [Act.put, List.setIfInBounds_toArray, List.set_cons_zero, List.set_cons_succ]
          refine' wpAnyH_take (i := 8) (oi := _) (v := _) rfl (by kernel_rfl) (by kernel_rfl) (by kernel_rfl) (fun _ _ _ h => h) (Or.inl ⟨?_, ?_⟩) (by assumption) ?_
          rotate_left
          all_goals (try simp only [List.getElem_toArray, List.getElem_cons_succ, List.getElem_cons_zero])
          · rfl
          · intro W hSw; (try dsimp only at hSw); go_simp; (try with_reducible rfl)
          try simp only [Act.put, List.setIfInBounds_toArray, List.set_cons_zero, List.set_cons_succ]
          refine' wpAnyH_take (i := 9) (oi := _) (v := _) rfl (by kernel_rfl) (by kernel_rfl) (by kernel_rfl) (fun _ _ _ h => h) (Or.inl ⟨?_, ?_⟩) (by assumption) ?_
          rotate_left
          all_goals (try simp only [List.getElem_toArray, List.getElem_cons_succ, List.getElem_cons_zero])
          · rfl
          · intro W hSw; (try dsimp only at hSw); go_simp; (try with_reducible rfl)
          try simp only [Act.put, List.setIfInBounds_toArray, List.set_cons_zero, List.set_cons_succ]
          refine wpAnyH_ready (rs := [4]) (by kernel_rfl) (by simp) ?_
          refine AllReadyH.cons (o := _) rfl (fun K hK => ?_) AllReadyH.nil
          try simp only [List.getElem_toArray, List.getElem_cons_succ, List.getElem_cons_zero]
          go_simp
          refine HBYT.out.mono ?_
          rintro e w7 ⟨⟨v7, rfl, ho7⟩, hb7⟩
          obtain ⟨a7, n7, c7, rfl, hn7, ho7⟩ := ho7.slice
          have kb1 := conv8 ho7.reads hBd.out
          have kb2 := conv8 (hsd.out.below hb7) hBd.out
          rw [HS.out] at kb1 kb2
          have HB7 := Lib.hid hb7
          clear ho7 hb7 hn7
          go_wp2_with fail
          refine hK.out _ _ kb2 (fun hHeld => ?_)
          clear hK K
          try simp only [Act.put, List.setIfInBounds_toArray, List.set_cons_zero, List.set_cons_succ]
          refine wpAnyH_ready (rs := [5]) (by kernel_rfl) (by simp) ?_
          refine AllReadyH.cons (o := _) rfl (fun K hK => ?_) AllReadyH.nil
          try simp only [List.getElem_toArray, List.getElem_cons_succ, List.getElem_cons_zero]
          go_simp
          refine hK.out _ _ kb2 (fun hHeld => ?_)
          clear hK K
          try simp only [Act.put, List.setIfInBounds_toArray, List.set_cons_zero, List.set_cons_succ]
          refine' wpAnyH_take (i := 10) (oi := _) (v := _) rfl (by kernel_rfl) (by kernel_rfl) (by kernel_rfl) (fun _ _ _ h => h) (Or.inl ⟨?_, ?_⟩) (by assumption) ?_
          rotate_left
          all_goals (try simp only [List.getElem_toArray, List.getElem_cons_succ, List.getElem_cons_zero])
          · rfl
          · intro W hSw; (try dsimp only at hSw); go_simp; (try with_reducible rfl)
          try simp only [Act.put, List.setIfInBounds_toArray, List.set_cons_zero, List.set_cons_succ]
          refine' wpAnyH_take (i := 11) (oi := _) (v := _) rfl (by kernel_rfl) (by kernel_rfl) (by kernel_rfl) (fun _ _ _ h => h) (Or.inl ⟨?_, ?_⟩) (by assumption) ?_
          rotate_left
          all_goals (try simp only [List.getElem_toArray, List.getElem_cons_succ, List.getElem_cons_zero])
          · rfl
          · intro W hSw; (try dsimp only at hSw); go_simp; (try with_reducible rfl)
          try simp only [Act.put, List.setIfInBounds_toArray, List.set_cons_zero, List.set_cons_succ]
          refine wpAnyH_done (by kernel_rfl) ?_ _
          have hb := ((Below.refl w6.heap.size w6).drew).trans HB7.out
          replace H0 := Lib.hid (H0.out.trans (hb.mono H0.out.size))
          replace HX := Lib.hid (HX.out.below hb)
          replace HY := Lib.hid (HY.out.below hb)
          clear hb kb0 kb1 kb2
          go_wp2_with fail
          rcases Nat.lt_trichotomy n m with hlt | heq | hgt
          · have HLT := Lib.hid hlt
            clear hlt
            refine (sub_less HX.out HY.out (fun h => by have := HLT.out; omega)).mono ?_
            rintro e w8 ⟨⟨v8, rfl⟩, hb⟩
            replace H0 := Lib.hid (H0.out.trans (hb.mono H0.out.size))
            replace HX := Lib.hid (HX.out.below hb)
            replace HY := Lib.hid (HY.out.below hb)
            clear hb
            go_wp2_with fail
            refine (cmp_nat HX.out HY.out (-1) (ordN_lt HLT.out).symm).mono ?_
            rintro e w9 ⟨rfl, hb⟩
            replace H0 := Lib.hid (H0.out.trans (hb.mono H0.out.size))
            replace HX := Lib.hid (HX.out.below hb)
            replace HY := Lib.hid (HY.out.below hb)
            clear hb
            go_wp2_with fail
            refine (cmp_nat HY.out HX.out (1) (ordN_gt HLT.out).symm).mono ?_
            rintro e w10 ⟨rfl, hb⟩
            replace H0 := Lib.hid (H0.out.trans (hb.mono H0.out.size))
            clear hb
            go_wp2_with fail
            go_ret
            exact ⟨rfl, H0.out⟩
          · subst heq
            refine (sub_nat HX.out HY.out t0.out (Nat.le_refl _)).mono ?_
            rintro e w8 ⟨⟨v8, rfl, hd⟩, hb⟩
            obtain ⟨da, dn, dc, rfl, hdr⟩ := hd
            obtain rfl : dn = 0 := by rw [← hdr.length, Nat.sub_self, show nat32 0 = [] from natB_zero _]; rfl
            clear hdr
            replace H0 := Lib.hid (H0.out.trans (hb.mono H0.out.size))
            replace HX := Lib.hid (HX.out.below hb)
            replace HY := Lib.hid (HY.out.below hb)
            clear hb
            go_wp2_with fail
            refine (cmp_nat HX.out HY.out (0) (ordN_eq rfl).symm).mono ?_
            rintro e w9 ⟨rfl, hb⟩
            replace H0 := Lib.hid (H0.out.trans (hb.mono H0.out.size))
            replace HX := Lib.hid (HX.out.below hb)
            replace HY := Lib.hid (HY.out.below hb)
            clear hb
            go_wp2_with fail
            refine (cmp_nat HY.out HX.out (0) (ordN_eq rfl).symm).mono ?_
            rintro e w10 ⟨rfl, hb⟩
            replace H0 := Lib.hid (H0.out.trans (hb.mono H0.out.size))
            clear hb
            go_wp2_with fail
            go_ret
            exact ⟨rfl, H0.out⟩
          · have HGT := Lib.hid hgt
            clear hgt
            refine (sub_nat HX.out HY.out t0.out (by have := HGT.out; omega)).mono ?_
            rintro e w8 ⟨⟨v8, rfl, hd⟩, hb⟩
            clear hd
            replace H0 := Lib.hid (H0.out.trans (hb.mono H0.out.size))
            replace HX := Lib.hid (HX.out.below hb)
            replace HY := Lib.hid (HY.out.below hb)
            clear hb
            go_wp2_with fail
            refine (cmp_nat HX.out HY.out (1) (ordN_gt HGT.out).symm).mono ?_
            rintro e w9 ⟨rfl, hb⟩
            replace H0 := Lib.hid (H0.out.trans (hb.mono H0.out.size))
            replace HX := Lib.hid (HX.out.below hb)
            replace HY := Lib.hid (HY.out.below hb)
            clear hb
            go_wp2_with fail
            refine (cmp_nat HY.out HX.out (-1) (ordN_lt HGT.out).symm).mono ?_
            rintro e w10 ⟨rfl, hb⟩
            replace H0 := Lib.hid (H0.out.trans (hb.mono H0.out.size))
            clear hb
            go_wp2_with fail
            go_ret
            exact ⟨rfl, H0.out⟩

end Go.Proofs.Ytanimenpkinapaa
