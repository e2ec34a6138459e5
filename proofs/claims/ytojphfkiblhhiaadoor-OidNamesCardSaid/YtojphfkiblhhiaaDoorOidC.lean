/-
  OID: Text.
-/
import Derived.Test.YtojphfkiblhhiaaDoorOidB
import Derived.Maps.AppendAt
namespace Go.Proofs.YtojphfkiblhhiaaDoor
open Go.RowKit Go.Shelf
attribute [local go_sem] Oper.semAt_some
set_option maxRecDepth 100000

/-- A text as a value. -/
def strV (x : List UInt8) : Value := .string ⟨x.toArray⟩
/-- What the call owns from block B on: a slice of texts. -/
def OwnS (B : Nat) (w : World) (v : Value) (xs : List (List UInt8)) : Prop := w.ownsRow B 9 1 v xs.length (xs.map strV)

theorem OwnS.below {B : Nat} {w w' : World} {v : Value} {xs : List (List UInt8)} (h : OwnS B w v xs) (hb : Below w.heap.size w w') : OwnS B w' v xs := by
  obtain ⟨h1, h2⟩ := h
  refine ⟨h1, ?_⟩
  rcases h2 with h2 | ⟨g, cap, cur, e, hB, hg, r⟩
  · exact .inl h2
  · exact .inr ⟨g, cap, cur, e, hB, (hb.block g (Array.getElem?_eq_some_iff.1 hg).1).trans hg, r⟩
theorem OwnS.slice {B : Nat} {w : World} {v : Value} {xs : List (List UInt8)} (h : OwnS B w v xs) : ∃ a n cap, v = .slice a n cap ∧ n = xs.length ∧ OwnS B w (.slice a n cap) xs := by
  rcases h.2 with ⟨rfl, h0⟩ | ⟨g, cap, cur, rfl, r⟩
  · exact ⟨none, 0, 0, rfl, h0.symm, h⟩
  · exact ⟨some ⟨g, 0, none⟩, xs.length, cap, rfl, rfl, h⟩

theorem infoStr : (Tryd.prog.info? 9).map (fun i => (i.zero, i.size, i.bytes)) = some (some (.string ⟨#[]⟩), 1, 16) := by kernel_rfl

/-- Numbers' text. -/
def textO (l : List Nat) : List UInt8 := Lib.join (l.map Lib.decDigits) [46]
def textR (l : List Nat) : List UInt8 × Int := if OidOk l then (textO l, 0) else ([], 140)

theorem dec_lenO (u : Nat) (hu : u < 18446744073709551616) : (Lib.decDigits u).length ≤ 20 := by
  rw [Lib.decDigits_length]
  rcases Nat.eq_zero_or_pos u with rfl | h
  · rw [← Lib.decDigits_length]
    unfold Lib.decDigits
    simp
  · have := Lib.numDigits_eq u h hu
    split at this <;> omega

theorem lens_le (k : Nat) : ∀ (xs : List (List UInt8)), (∀ x ∈ xs, x.length ≤ k) → Lib.lens xs ≤ k * xs.length
  | [], _ => Nat.zero_le _
  | x :: r, h => by
    have := lens_le k r fun y hy => h y (List.mem_cons_of_mem _ hy)
    have := h x List.mem_cons_self
    show x.length + Lib.lens r ≤ k * (r.length + 1)
    rw [Nat.mul_add]
    omega

theorem text_len (l : List Nat) (h20 : l.length ≤ 20) (h : ∀ x ∈ l, x < 9223372036854775808) : (textO l).length ≤ 1000 := by
  unfold textO
  rcases l with _ | ⟨x, r⟩
  · exact Nat.zero_le _
  · rw [List.map_cons, Lib.join_length]
    have := lens_le 20 ((x :: r).map Lib.decDigits) fun y hy => by
      obtain ⟨n, hn, rfl⟩ := List.mem_map.1 hy
      exact dec_lenO n (Nat.lt_trans (h n hn) (by decide))
    rw [List.map_cons, List.length_cons, List.length_map] at this
    rw [List.length_map]
    simp only [List.length_cons, List.length_nil] at *
    omega

set_option maxHeartbeats 1000000 in
theorem text_any (a : Option Addr) (len cap : Nat) (l : List Nat) (w : World) (h : Reads .u64 w a len cap l) (ht : Tab w) :
    Calls Tryd.prog 8 #[.slice a len cap] w fun e w' => e = .returned (.tuple #[.string ⟨(textR l).1.toArray⟩, .int .i64 (textR l).2]) ∧ Below w.heap.size w w' := by
  have H := Lib.hid h
  by_cases hok : OidOk l
  rotate_left
  · have hr := Lib.hid (show textR l = ([], 140) from if_neg hok)
    have hc := Lib.hid (show checkO l = 140 from if_neg hok)
    clear h hok ht
    go_enter Tryd.func8, Tryd.ntmps8
    go_wp2_with fail
    refine (check_any a len cap l _ H.out).mono ?_
    rintro e w1 ⟨rfl, hb⟩
    rw [hc.out]
    have HB := Lib.hid hb
    clear hb
    go_wp2
    go_ret2
    exact ⟨by rw [hr.out]; rfl, HB.out⟩
  obtain ⟨i0, hi, hz0, hz1, hz2⟩ := info_parts infoStr
  have hr := Lib.hid (show textR l = (textO l, 0) from if_pos hok)
  have hck := Lib.hid (show checkO l = 0 from if_pos hok)
  have hl := h.length
  have hm := h.len_le
  unfold maxLen at hm
  have hcm := h.max
  unfold maxLen at hcm
  have hle := h.le
  obtain ⟨k1, k2, k3, k4, k5, h6⟩ := hok
  have hlen2 : 2 ≤ len := by omega
  have hlen20 : len ≤ 20 := by omega
  have HTL := Lib.hid (text_len l k2 k3)
  obtain ⟨b, off, rfl, hbl, hc⟩ := h.cells (by omega)
  have HL := Lib.hid hl
  have HK3 := Lib.hid k3
  have HC := Lib.hid hc
  have HT := Lib.hid ht
  clear h hc k1 k2 k3 k4 k5 h6 hl ht
  go_enter Tryd.func8, Tryd.ntmps8
  go_wp2_with fail
  refine (check_any _ len cap l _ H.out).mono ?_
  rintro e w1 ⟨rfl, hb⟩
  rw [hck.out]
  have H1 := Lib.hid hb
  clear hb
  go_wp2_with (at_make; refine wpList_make_own _ rfl _ _ 49 rfl w.heap.size 9 i0 (.string ⟨#[]⟩) 1 Tryd.underlying49 hi hz0 hz1 .i64 .i64 _ len rfl rfl rfl (by rw [hz2]; omega) (by unfold maxLen; omega) H1.out.size ?_; intro w2 hown hgrow)
  have HOW := Lib.hid (show OwnS w.heap.size w2 (.slice (some ⟨w1.heap.size, 0, none⟩) 0 len) [] from hown)
  have H2 := Lib.hid (Below.grown H1.out hgrow H1.out.size (fun _ e => by cases e))
  clear hown hgrow
  go_loopw [5, 18] (fun bv iv wr => ∃ (i : Nat) (a n c : _), iv = .int .i64 (i : Int) ∧ i ≤ len ∧ n = i ∧ bv = .slice a n c ∧ Hid (OwnS w.heap.size wr (.slice a n c) ((l.take i).map Lib.decDigits)) ∧ Hid (Below w.heap.size w wr)) (fun _ iv _ => len + 1 - (intOf iv).toNat)
  case atStart => exact ⟨0, _, 0, len, rfl, by omega, rfl, rfl, HOW, H2⟩
  case round =>
    obtain ⟨i, a, n, c, rfl, hin, hni, rfl, HO, HB⟩ := hrel
    subst hni
    by_cases hlt : n < len
    · obtain ⟨x, hx⟩ : ∃ x, l.getD n 0 = x := ⟨_, rfl⟩
      have ci : wr.cell? ⟨b, off + n, none⟩ = some (.int .u64 (x : Int)) := by
        rw [← hx]
        exact (HB.out.cell (p := ⟨b, off + n, none⟩) hbl).trans (HC.out n hlt)
      have hget := (show l[n]? = some x from by
        rw [List.getD_eq_getElem?_getD] at hx
        rw [List.getElem?_eq_getElem (by have := HL.out; omega)] at hx ⊢
        simpa using hx)
      have hx8 : x < 9223372036854775808 := HK3.out x (List.mem_of_getElem? hget)
      have HX := Lib.hid (show (l.take (n + 1)).map Lib.decDigits = (l.take n).map Lib.decDigits ++ [Lib.decDigits x] by
        rw [List.take_add_one, hget]; simp)
      clear hget hx
      go_wp2_with fail
      refine (formatUint_any x (by omega) wr (HT.out.below HB.out)).mono ?_
      rintro e w4 ⟨rfl, hb4⟩
      have HB4 := Lib.hid (HB.out.trans (hb4.mono HB.out.size))
      have HO4 := Lib.hid (HO.out.below hb4)
      have hs4 := hb4.size
      have hs2 := HB.out.size
      clear hb4
      have HO5 := Lib.hid (show w4.ownsRow w.heap.size 9 1 (.slice a n c) n (((l.take n).map Lib.decDigits).map strV) from by
        have := HO4.out
        unfold OwnS at this
        rw [List.length_map, List.length_take, Nat.min_eq_left (by rw [HL.out]; omega)] at this
        exact this)
      go_wp2_with (at_builtin; go_loud (refine wpList_append_own_at _ rfl _ _ 49 rfl w.heap.size 9 i0 (.string ⟨#[]⟩) 1 16 Tryd.underlying49 hi hz0 hz1 hz2 rfl (by decide) _ _ _ rfl (World.ownsRow.alloc HO5.out _) ⟨w4.heap.size, 0, none⟩ 1 1 [strV (Lib.decDigits x)] rfl rfl (cell_oneO _ _ _ _ (by simp)) (by simp [Value.oneCell', strV]) (by unfold maxLen; omega) (by omega) (by simp; omega) ?_); intro v' w5 hown' hgrow _ hblk; obtain ⟨g', cap', rfl⟩ := ownsRow_succ hown'; have HW5 := Lib.hid hown'; have HB5 := Lib.hid ((appendedO HO5.out HB4.out.size hgrow).2.1 w HB4.out); clear hown' hgrow hblk)
      go_wp2
      go_roundw
      case rel =>
        refine ⟨n + 1, _, n + 1, cap', by go_num, by omega, rfl, rfl, ?_, HB5⟩
        rw [HX.out]
        have := HW5.out
        refine Lib.hid ?_
        unfold OwnS
        rw [List.length_append, List.length_map, List.length_take, Nat.min_eq_left (by rw [HL.out]; omega), List.map_append]
        exact this
      case measure => simp [intOf]; omega
    · have hie : n = len := by omega
      subst hie
      have hT := Lib.hid (show l.take n = l from List.take_of_length_le (by rw [HL.out]; exact Nat.le_refl _))
      obtain ⟨N, hN⟩ : ∃ N, n = N + 1 := ⟨n - 1, by omega⟩
      have hO := HO.out
      rw [hT.out] at hO
      unfold OwnS at hO
      rw [List.length_map, HL.out, hN] at hO
      obtain ⟨g, cap', hg⟩ := ownsRow_succ hO
      rw [← hN] at hg hO
      cases hg
      have hlt := (World.ownsRow.lt hO g rfl).2
      have hnc : n ≤ c := by
        rcases hO.2 with ⟨e, _⟩ | ⟨g2, cap2, cur2, e, _, _, hle2, _⟩
        · cases e
        · cases e; exact hle2
      have HOO := Lib.hid hO
      have hlm : ((l.map Lib.decDigits).map fun x => (⟨x.toArray⟩ : ByteArray)).length = n := by rw [List.length_map, List.length_map, HL.out]
      have hmm : ((l.map Lib.decDigits).map fun x => (⟨x.toArray⟩ : ByteArray)).map (·.data.toList) = l.map Lib.decDigits := by
        rw [List.map_map]
        exact (List.map_congr_left fun x _ => rfl).trans (List.map_id _)
      have hj := Tryd.strings_Join g 0 c ((l.map Lib.decDigits).map fun x => (⟨x.toArray⟩ : ByteArray)) ⟨#[46]⟩ wr (fun j x hx => by
        have hjn : j < n := by rw [← hlm]; exact (List.getElem?_eq_some_iff.1 hx).1
        rw [Nat.zero_add, World.ownsRow.cellAt HOO.out j (by omega), List.map_map]
        rw [List.map_map] at hx
        rw [List.getElem?_map] at hx ⊢
        revert hx
        cases l[j]? with
        | none => intro hx; cases hx
        | some y => intro hx; cases hx; rfl) hlt (by rw [hlm]; omega) (by rw [hlm]; exact hnc) (by rw [hmm]; exact Nat.le_trans HTL.out (by decide))
      rw [hlm, hmm] at hj
      have HJ := Lib.hid hj
      clear hN hj hlm hmm hlt hO
      go_wp2_with fail
      refine HJ.out.mono ?_
      rintro e w6 ⟨rfl, hb6⟩
      have HB6 := Lib.hid (HB.out.trans (hb6.mono HB.out.size))
      clear hb6
      go_wp2
      go_ret2
      exact ⟨by rw [hr.out]; rfl, HB6.out⟩
end Go.Proofs.YtojphfkiblhhiaaDoor
