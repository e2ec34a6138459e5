/-
  WALKS OF OCTET's Hex AND worth, AND OF THE REFERENCE's sign, Hex AND Unhex.
-/
import Derived.Test.YtidiapdddkknpaaOct9
import Derived.Deep.RegionHeld3
namespace Go.Proofs.Ytidiapdddkknpaa
open Go.RowKit

def isDig (r : Nat) : Bool := decide (48 ≤ r ∧ r ≤ 57) || decide (97 ≤ r ∧ r ≤ 102)
def digV (r : Nat) : Nat := if r ≤ 57 then r - 48 else r - 87
def signN (n : Nat) : Nat := if n < 10 then 48 + n else 87 + n
def signC (n : Nat) : UInt8 := UInt8.ofNat (signN n)

theorem signC_toNat (n : Nat) (h : n < 16) : (signC n).toNat = signN n := by
  simp only [signC, UInt8.toNat_ofNat', signN]
  split <;> omega

/-- Bytes' text. -/
def hexL (l : List UInt8) : List UInt8 := l.flatMap fun c => [signC (c.toNat / 16), signC (c.toNat % 16)]

theorem hexL_step (l : List UInt8) (k : Nat) (hk : k < l.length) : hexL (l.take (k + 1)) = hexL (l.take k) ++ [signC ((l[k]?.getD 0).toNat / 16), signC ((l[k]?.getD 0).toNat % 16)] := by
  rw [take_snoc8 l k hk, hexL, List.flatMap_append]
  rfl

theorem hexL_length (l : List UInt8) : (hexL l).length = 2 * l.length := by
  induction l with
  | nil => rfl
  | cons c l ih => simp only [hexL, List.flatMap_cons, List.length_append, List.length_cons, List.length_nil] at *; omega

/-- 'append(s, x...)' as a step of a drawn region; x is not nil. -/
theorem Own8.drew {E : TypeId} {B : Nat} {w : World} {v : Value} {l : List UInt8} (h : Own8 E B w v l) : Own8 E B w.drew v l := World.ownsRow.drew h

theorem step_append_bts {P : Program} (w : World) {o : Oper} {a : Act} {K : Act → World → Prop} {Q : Exit → Act → World → Prop} (s x : Operand) (t : TypeId)
    (ho : o.op = .call { callee := .builtin .append, args := #[s, x], argTypes := #[t, t] })
    (B E : Nat) (i : TypeInfo) (ht : P.underlying t = some (.slice E)) (hi : P.info? E = some i) (hz : i.zero = some (.int .u8 0)) (hsize : i.size = 1) (hby : i.bytes = 1)
    (v : Value) (l : List UInt8) (hs : a.eval s = v) (hown : Own8 E B w v l) (ad : Addr) (m c : Nat) (l2 : List UInt8) (hx : a.eval x = .slice (some ad) m c) (hb : Bts w (some ad) m c l2)
    (hsum : l.length + m ≤ 140737488355328) (hbase : B ≤ w.heap.size)
    (h : ∀ v' w', Own8 E B w' v' (l ++ l2) → (∀ w0, Below B w0 w → Below B w0 w') → K (a.put o.dst v') w') : o.wp P a w K Q := by
  have hlen := hb.length
  refine wp_append_own w s x t ho B E i (.int .u8 0) 1 1 ht hi hz hsize hby rfl (by decide) v l.length (l.map byt) hs hown ad m c (l2.map byt) hx (by simpa using hlen) hb.news (byts_oneCell _) (by unfold maxLen; omega) (by omega) hbase ?_
  intro v' w' ho' hg _
  refine h v' w' ?_ (fun w0 h0 => h0.grown hg hbase (fun k hk => (hown.lt k hk).1))
  unfold Own8
  rw [List.map_append, List.length_append, hlen]
  exact ho'

theorem Bts.two (w : World) (E : TypeId) (n m : Int) (c d : UInt8) (hn : n = (c.toNat : Int)) (hm : m = (d.toNat : Int)) : Bts (w.alloc (.cells #[.int .u8 n, .int .u8 m] E)) (some ⟨w.heap.size, 0, .none⟩) 2 2 [c, d] := by
  subst hn hm
  refine ⟨rfl, Nat.le_refl _, by unfold maxLen; omega, (fun h => by cases h), fun _ => ⟨w.heap.size, 0, rfl, by simp, fun i hi => ?_⟩⟩
  rw [World.cell?_alloc_at _ _ _ _ (by simp)]
  match i, hi with
  | 0, _ => rfl
  | 1, _ => rfl

theorem dig_get (i : Int) (n : Nat) (hi : i = (n : Int)) (hn : n < 16) (h : i.toNat < (⟨#[48, 49, 50, 51, 52, 53, 54, 55, 56, 57, 97, 98, 99, 100, 101, 102]⟩ : ByteArray).size) : ((⟨#[48, 49, 50, 51, 52, 53, 54, 55, 56, 57, 97, 98, 99, 100, 101, 102]⟩ : ByteArray)[i.toNat]'h).toNat = signN n := by
  subst hi
  have : ∀ n < 16, ∀ h, ((⟨#[48, 49, 50, 51, 52, 53, 54, 55, 56, 57, 97, 98, 99, 100, 101, 102]⟩ : ByteArray)[n]'h).toNat = signN n := by decide
  exact this n hn _

theorem and15 (x : Nat) (hx : x < 256) : bits BinOp.and IntKind.u8 (x : Int) 15 = (x : Int) % 16 := by
  rw [show (15 : Int) = ((15 : Nat) : Int) from rfl, u8_and_nat _ _ hx (by omega), show (15 : Nat) = 2 ^ 4 - 1 from rfl, Nat.and_two_pow_sub_one_eq_mod]
  rfl

theorem wrap_small (x : Nat) (hx : x < 256) : IntKind.i64.wrap (x : Int) = x := by
  simp only [IntKind.wrap, IntKind.bits, IntKind.signed]
  simp
  omega
theorem q16 (x : Nat) (hx : x < 256) : IntKind.i64.wrap ((IntKind.i64.wrap (x : Int)).tdiv 16) = ((x / 16 : Nat) : Int) := by
  rw [wrap_small x hx, Int.tdiv_eq_ediv_of_nonneg (by omega), show (x : Int) / 16 = ((x / 16 : Nat) : Int) from by omega, wrap_small _ (by omega)]
theorem q16' (x : Nat) (hx : x < 256) : IntKind.i64.wrap ((x : Int) / 16) = ((x / 16 : Nat) : Int) := by
  rw [show (x : Int) / 16 = ((x / 16 : Nat) : Int) from by omega, wrap_small _ (by omega)]
theorem r16' (x : Nat) : (x : Int).tmod 16 = ((x % 16 : Nat) : Int) := by
  rw [Int.tmod_eq_emod_of_nonneg (by omega)]
  omega
theorem r16 (x : Nat) (hx : x < 256) : (IntKind.i64.wrap (x : Int)).tmod 16 = ((x % 16 : Nat) : Int) := by
  rw [wrap_small x hx, Int.tmod_eq_emod_of_nonneg (by omega)]
  omega

theorem sign_any (i : Int) (n : Nat) (hi : i = (n : Int)) (hn : n < 16) (w : World) : Calls Try.prog 35 #[.int .i64 i] w fun e w' => e = .returned (.int .u8 (signN n : Nat)) ∧ w' = w := by
  subst hi
  by_cases h : n < 10
  · go_enter Try.func35, Try.ntmps35
    go_wp2
    go_ret
    exact ⟨by rw [signN, if_pos h]; simp <;> omega, rfl⟩
  · go_enter Try.func35, Try.ntmps35
    go_wp2
    go_ret
    exact ⟨by rw [signN, if_neg h]; simp <;> omega, rfl⟩

theorem worth_any (r : Nat) (hr : r ≤ 2147483647) (w : World) : Calls Try.prog 41 #[.int .i32 (r : Int)] w fun e w' => e = .returned (.tuple #[.int .u8 ((if isDig r then digV r else 0 : Nat) : Int), .bool (isDig r)]) ∧ w' = w := by
  by_cases h1 : 48 ≤ r ∧ r ≤ 57
  · have e1 : isDig r = true := by simp [isDig]; omega
    have e2 : digV r = r - 48 := by rw [digV, if_pos h1.2]
    rw [e1, if_pos rfl, e2]
    obtain ⟨h2, h3⟩ := h1
    clear e1 e2
    go_enter Try.func41, Try.ntmps41
    go_wp2
    go_ret2
    exact ⟨by simp <;> omega, rfl⟩
  · by_cases h2 : 97 ≤ r ∧ r ≤ 102
    · have e1 : isDig r = true := by simp [isDig]; omega
      have e2 : digV r = r - 87 := by rw [digV, if_neg (by omega)]
      rw [e1, if_pos rfl, e2]
      obtain ⟨h2, h3⟩ := h2
      clear e1 e2 h1
      go_enter Try.func41, Try.ntmps41
      go_wp2
      go_ret2
      exact ⟨by simp <;> omega, rfl⟩
    · have e1 : isDig r = false := by simp [isDig]; omega
      rw [e1, if_neg (by simp)]
      clear e1
      by_cases h3 : r < 48
      · clear h1 h2
        go_enter Try.func41, Try.ntmps41
        go_wp2
        go_ret2
        exact ⟨rfl, rfl⟩
      · by_cases h4 : r < 97
        · have h5 : 57 < r := by omega
          have h6 : 48 ≤ r := by omega
          clear h1 h2 h3
          go_enter Try.func41, Try.ntmps41
          go_wp2
          go_ret2
          exact ⟨rfl, rfl⟩
        · have h5 : 102 < r := by omega
          clear h1 h2 h3 h4
          go_enter Try.func41, Try.ntmps41
          go_wp2
          go_ret2
          exact ⟨rfl, rfl⟩

set_option maxHeartbeats 800000 in
theorem hex_any (a : Option Addr) (len cap : Nat) (l : List UInt8) (w : World) (h : Bts w a len cap l) (hm : len ≤ 70368744177) :
    Calls Try.prog 13 #[.slice a len cap] w fun e w' => e = .returned (.string (strOf (hexL l))) ∧ Below w.heap.size w w' := by
  obtain ⟨i0, hi, hz0, hz1, hz2⟩ := info_parts Try.info8
  have H := Lib.hid h
  have L := Lib.hid h.length
  clear h
  go_enter Try.func13, Try.ntmps13
  go_wp2_with (at_make; refine wpList_make_own _ rfl _ _ 22 rfl w.heap.size 5 i0 (.int .u8 0) 1 Try.underlying22 hi hz0 hz1 _ _ _ (2 * len) rfl rfl (by simp) (by rw [hz2]; omega) (by unfold maxLen; omega) (Nat.le_refl _) ?_; intro w1 hown0 hgrow0)
  have hb0 : Below w.heap.size w w1 := (Below.refl _ _).grown hgrow0 (Nat.le_refl _) (fun _ h => by cases h)
  have HO := Lib.hid hown0
  clear hown0 hgrow0
  go_loopw [3, 12] (fun v i wr => ∃ k : Nat, k ≤ len ∧ i = .int .i64 k ∧ Own8 5 w.heap.size wr v (hexL (l.take k)) ∧ Below w.heap.size w wr) (fun _ i _ => len - (intOf i).toNat)
  case atStart => exact ⟨0, Nat.zero_le _, rfl, HO.out, hb0⟩
  case round =>
    obtain ⟨k, hk, rfl, hown, hb⟩ := hrel
    have hsz := hb.size
    by_cases hlt : k < len
    · obtain ⟨b, off, rfl, hbl, hc⟩ := (H.out.below hb).cells (by omega)
      have hck := hc k hlt
      have hst := Lib.hid (hexL_step l k (by rw [L.out]; exact hlt))
      have hx8 := UInt8.toNat_lt (l[k]?.getD 0)
      clear hc
      generalize (l[k]?.getD 0).toNat = x at *
      go_wp2
      have hbit := and15 x hx8
      refine wp_region_held_drew (S := fun _ => True) (by kernel_rfl) trivial (fun hHeld => ?_)
      refine' wpAnyH_take (i := 0) (oi := _) (v := _) rfl (by kernel_rfl) (by kernel_rfl) (by kernel_rfl) (fun _ _ _ h => h) (Or.inl ⟨?_, ?_⟩) (by assumption) ?_
      rotate_left
      all_goals (try simp only [List.getElem_toArray, List.getElem_cons_succ, List.getElem_cons_zero])
      · rfl
      · intro W hSw; (try dsimp only at hSw); go_simp; (try with_reducible rfl)
      try simp only [Act.put, List.setIfInBounds_toArray, List.set_cons_zero, List.set_cons_succ]
      refine' wpAnyH_take (i := 1) (oi := _) (v := _) rfl (by kernel_rfl) (by kernel_rfl) (by kernel_rfl) (fun _ _ _ h => h) (Or.inl ⟨?_, ?_⟩) (by assumption) ?_
      rotate_left
      all_goals (try simp only [List.getElem_toArray, List.getElem_cons_succ, List.getElem_cons_zero])
      · rfl
      · intro W hSw; (try dsimp only at hSw); go_simp; (try with_reducible rfl)
      try simp only [Act.put, List.setIfInBounds_toArray, List.set_cons_zero, List.set_cons_succ]
      refine' wpAnyH_take (i := 2) (oi := _) (v := _) rfl (by kernel_rfl) (by kernel_rfl) (by kernel_rfl) (fun _ _ _ h => h) (Or.inl ⟨?_, ?_⟩) (by assumption) ?_
      rotate_left
      all_goals (try simp only [List.getElem_toArray, List.getElem_cons_succ, List.getElem_cons_zero])
      · rfl
      · intro W hSw; (try dsimp only at hSw); go_simp; (try with_reducible rfl)
      try simp only [Act.put, List.setIfInBounds_toArray, List.set_cons_zero, List.set_cons_succ]
      refine' wpAnyH_take (i := 3) (oi := _) (v := (.int .u8 (signN (x / 16) : Nat))) rfl (by kernel_rfl) (by kernel_rfl) (by kernel_rfl) (fun _ _ _ h => h) (Or.inl ⟨?_, ?_⟩) (by assumption) ?_
      all_goals (try simp only [List.getElem_toArray, List.getElem_cons_succ, List.getElem_cons_zero])
      · rfl
      · intro W hSw; (try dsimp only at hSw); go_simp; (first | rw [dif_pos (by omega)] | skip); simp only [Result.andThen]; exact congrArg (fun z : Nat => Result.ok (Next.value (.int .u8 (z : Int))) W) (dig_get _ (x / 16) (by omega) (by omega) _)
      try simp only [Act.put, List.setIfInBounds_toArray, List.set_cons_zero, List.set_cons_succ]
      refine' wpAnyH_take (i := 4) (oi := _) (v := _) rfl (by kernel_rfl) (by kernel_rfl) (by kernel_rfl) (fun _ _ _ h => h) (Or.inl ⟨?_, ?_⟩) (by assumption) ?_
      rotate_left
      all_goals (try simp only [List.getElem_toArray, List.getElem_cons_succ, List.getElem_cons_zero])
      · rfl
      · intro W hSw; (try dsimp only at hSw); go_simp; (try with_reducible rfl)
      try simp only [Act.put, List.setIfInBounds_toArray, List.set_cons_zero, List.set_cons_succ]
      refine' wpAnyH_take (i := 5) (oi := _) (v := _) rfl (by kernel_rfl) (by kernel_rfl) (by kernel_rfl) (fun _ _ _ h => h) (Or.inl ⟨?_, ?_⟩) (by assumption) ?_
      rotate_left
      all_goals (try simp only [List.getElem_toArray, List.getElem_cons_succ, List.getElem_cons_zero])
      · rfl
      · intro W hSw; (try dsimp only at hSw); go_simp; (try with_reducible rfl)
      try simp only [Act.put, List.setIfInBounds_toArray, List.set_cons_zero, List.set_cons_succ]
      refine' wpAnyH_take (i := 6) (oi := _) (v := (.int .u8 (signN (x % 16) : Nat))) rfl (by kernel_rfl) (by kernel_rfl) (by kernel_rfl) (fun _ _ _ h => h) (Or.inl ⟨?_, ?_⟩) (by assumption) ?_
      all_goals (try simp only [List.getElem_toArray, List.getElem_cons_succ, List.getElem_cons_zero])
      · rfl
      · intro W hSw; (try dsimp only at hSw); go_simp; (first | rw [dif_pos (by omega)] | skip); simp only [Result.andThen]; exact congrArg (fun z : Nat => Result.ok (Next.value (.int .u8 (z : Int))) W) (dig_get _ (x % 16) (by omega) (by omega) _)
      try simp only [Act.put, List.setIfInBounds_toArray, List.set_cons_zero, List.set_cons_succ]
      refine wpAnyH_ready (rs := [7]) (by kernel_rfl) (by simp) ?_
      refine AllReadyH.cons (o := _) rfl (fun K hK => ?_) AllReadyH.nil
      try simp only [List.getElem_toArray, List.getElem_cons_succ, List.getElem_cons_zero]
      go_simp
      refine hK.out _ _ trivial (fun hHeld => ?_)
      clear hK K
      try simp only [Act.put, List.setIfInBounds_toArray, List.set_cons_zero, List.set_cons_succ]
      refine wpAnyH_ready (rs := [8]) (by kernel_rfl) (by simp) ?_
      refine AllReadyH.cons (o := _) rfl (fun K hK => ?_) AllReadyH.nil
      try simp only [List.getElem_toArray, List.getElem_cons_succ, List.getElem_cons_zero]
      rw [if_pos (by rfl)]
      refine step_append_bts _ (.tmp 16) (.tmp 23) 22 rfl w.heap.size 5 i0 Try.underlying22 hi hz0 hz1 hz2 _ (hexL (l.take k)) rfl (hown.alloc _).drew _ _ _ [signC (x / 16), signC (x % 16)] rfl ((Bts.two wr 5 _ _ (signC (x / 16)) (signC (x % 16)) (by rw [signC_toNat _ (by omega)]) (by rw [signC_toNat _ (by omega)])).below (Below.refl _ _).drew) (by rw [hexL_length, List.length_take]; simp; omega) (by simp; omega) ?_; intro v' w2 hown2 hgrow; have hb2 := hgrow _ (hb.alloc (by omega) _).drew
      refine hK.out _ _ trivial (fun hHeld => ?_)
      clear hK K
      try simp only [Act.put, List.setIfInBounds_toArray, List.set_cons_zero, List.set_cons_succ]
      refine' wpAnyH_take (i := 9) (oi := _) (v := _) rfl (by kernel_rfl) (by kernel_rfl) (by kernel_rfl) (fun _ _ _ h => h) (Or.inl ⟨?_, ?_⟩) (by assumption) ?_
      rotate_left
      all_goals (try simp only [List.getElem_toArray, List.getElem_cons_succ, List.getElem_cons_zero])
      · rfl
      · intro W hSw; (try dsimp only at hSw); go_simp; (try with_reducible rfl)
      try simp only [Act.put, List.setIfInBounds_toArray, List.set_cons_zero, List.set_cons_succ]
      refine wpAnyH_done (by kernel_rfl) ?_ _
      go_wp2_with fail
      go_roundw
      case rel => exact ⟨k + 1, by omega, by go_num, by rw [hst.out]; exact hown2, hb2⟩
      case measure => simp [intOf] <;> omega
    · obtain rfl : k = len := by omega
      rw [List.take_of_length_le (by rw [L.out]; omega)] at hown
      obtain ⟨a1, c1, rfl, hB, -⟩ := hown.form
      have hcv := conv8 hB
      go_wp2
      go_ret
      exact ⟨rfl, hb⟩

set_option maxHeartbeats 1600000 in
theorem refhex_any (a : Option Addr) (len cap : Nat) (l : List UInt8) (w : World) (h : Bts w a len cap l) (hm : len ≤ 70368744177) :
    Calls Try.prog 14 #[.slice a len cap] w fun e w' => e = .returned (.string (strOf (hexL l))) ∧ Below w.heap.size w w' := by
  obtain ⟨i0, hi, hz0, hz1, hz2⟩ := info_parts Try.info8
  have H := Lib.hid h
  have L := Lib.hid h.length
  clear h
  go_enter Try.func14, Try.ntmps14
  go_wp2
  go_loopw [3, 4] (fun v i wr => ∃ k : Nat, k ≤ len ∧ i = .int .i64 k ∧ Own8 5 w.heap.size wr v (hexL (l.take k)) ∧ Below w.heap.size w wr) (fun _ i _ => len - (intOf i).toNat)
  case atStart => exact ⟨0, Nat.zero_le _, rfl, Own8.nil _ _ _, Below.refl _ _⟩
  case round =>
    obtain ⟨k, hk, rfl, hown, hb⟩ := hrel
    have hsz := hb.size
    by_cases hlt : k < len
    · obtain ⟨b, off, rfl, hbl, hc⟩ := H.out.cells (by omega)
      have hcw := hc k hlt
      have hck := (hb.cell (p := ⟨b, off + k, none⟩) hbl).trans hcw
      have hst := Lib.hid (hexL_step l k (by rw [L.out]; exact hlt))
      have hx8 := UInt8.toNat_lt (l[k]?.getD 0)
      clear hc
      generalize (l[k]?.getD 0).toNat = x at *
      go_wp2
      refine wp_region_held_drew (S := fun W => W.cell? ⟨b, off + k, none⟩ = some (.int .u8 (x : Int))) (by kernel_rfl) hck (fun hHeld => ?_)
      refine' wpAnyH_take (i := 0) (oi := _) (v := _) rfl (by kernel_rfl) (by kernel_rfl) (by kernel_rfl) (fun _ _ _ h => h) (Or.inl ⟨?_, ?_⟩) (by assumption) ?_
      rotate_left
      all_goals (try simp only [List.getElem_toArray, List.getElem_cons_succ, List.getElem_cons_zero])
      · rfl
      · intro W hSw; (try dsimp only at hSw); go_simp; (try with_reducible rfl)
      try simp only [Act.put, List.setIfInBounds_toArray, List.set_cons_zero, List.set_cons_succ]
      refine' wpAnyH_take (i := 1) (oi := _) (v := _) rfl (by kernel_rfl) (by kernel_rfl) (by kernel_rfl) (fun _ _ _ h => h) (Or.inl ⟨?_, ?_⟩) (by assumption) ?_
      rotate_left
      all_goals (try simp only [List.getElem_toArray, List.getElem_cons_succ, List.getElem_cons_zero])
      · rfl
      · intro W hSw; (try dsimp only at hSw); go_simp; (try with_reducible rfl)
      try simp only [Act.put, List.setIfInBounds_toArray, List.set_cons_zero, List.set_cons_succ]
      refine' wpAnyH_take (i := 2) (oi := _) (v := _) rfl (by kernel_rfl) (by kernel_rfl) (by kernel_rfl) (fun _ _ _ h => h) (Or.inl ⟨?_, ?_⟩) (by assumption) ?_
      rotate_left
      all_goals (try simp only [List.getElem_toArray, List.getElem_cons_succ, List.getElem_cons_zero])
      · rfl
      · intro W hSw; (try dsimp only at hSw); go_simp; (try with_reducible rfl)
      try simp only [Act.put, List.setIfInBounds_toArray, List.set_cons_zero, List.set_cons_succ]
      refine' wpAnyH_take (i := 3) (oi := _) (v := _) rfl (by kernel_rfl) (by kernel_rfl) (by kernel_rfl) (fun _ _ _ h => h) (Or.inl ⟨?_, ?_⟩) (by assumption) ?_
      rotate_left
      all_goals (try simp only [List.getElem_toArray, List.getElem_cons_succ, List.getElem_cons_zero])
      · rfl
      · intro W hSw; (try dsimp only at hSw); go_simp; (try with_reducible rfl)
      try simp only [Act.put, List.setIfInBounds_toArray, List.set_cons_zero, List.set_cons_succ]
      refine' wpAnyH_take (i := 4) (oi := _) (v := _) rfl (by kernel_rfl) (by kernel_rfl) (by kernel_rfl) (fun _ _ _ h => h) (Or.inl ⟨?_, ?_⟩) (by assumption) ?_
      rotate_left
      all_goals (try simp only [List.getElem_toArray, List.getElem_cons_succ, List.getElem_cons_zero])
      · rfl
      · intro W hSw; (try dsimp only at hSw); go_simp; (try with_reducible rfl)
      try simp only [Act.put, List.setIfInBounds_toArray, List.set_cons_zero, List.set_cons_succ]
      refine' wpAnyH_take (i := 5) (oi := _) (v := _) rfl (by kernel_rfl) (by kernel_rfl) (by kernel_rfl) (fun _ _ _ h => h) (Or.inl ⟨?_, ?_⟩) (by assumption) ?_
      rotate_left
      all_goals (try simp only [List.getElem_toArray, List.getElem_cons_succ, List.getElem_cons_zero])
      · rfl
      · intro W hSw; (try dsimp only at hSw); go_simp; (try with_reducible rfl)
      try simp only [Act.put, List.setIfInBounds_toArray, List.set_cons_zero, List.set_cons_succ]
      refine' wpAnyH_take (i := 6) (oi := _) (v := _) rfl (by kernel_rfl) (by kernel_rfl) (by kernel_rfl) (fun _ _ _ h => h) (Or.inl ⟨?_, ?_⟩) (by assumption) ?_
      rotate_left
      all_goals (try simp only [List.getElem_toArray, List.getElem_cons_succ, List.getElem_cons_zero])
      · rfl
      · intro W hSw; (try dsimp only at hSw); go_simp; (try with_reducible rfl)
      try simp only [Act.put, List.setIfInBounds_toArray, List.set_cons_zero, List.set_cons_succ]
      refine' wpAnyH_take (i := 8) (oi := _) (v := _) rfl (by kernel_rfl) (by kernel_rfl) (by kernel_rfl) (fun _ _ _ h => h) (Or.inl ⟨?_, ?_⟩) (by assumption) ?_
      rotate_left
      all_goals (try simp only [List.getElem_toArray, List.getElem_cons_succ, List.getElem_cons_zero])
      · rfl
      · intro W hSw; (try dsimp only at hSw); go_simp; (try with_reducible rfl)
      try simp only [Act.put, List.setIfInBounds_toArray, List.set_cons_zero, List.set_cons_succ]
      refine' wpAnyH_take (i := 9) (oi := _) (v := _) rfl (by kernel_rfl) (by kernel_rfl) (by kernel_rfl) (fun _ _ _ h => h) (Or.inl ⟨?_, ?_⟩) (by assumption) ?_
      rotate_left
      all_goals (try simp only [List.getElem_toArray, List.getElem_cons_succ, List.getElem_cons_zero])
      · rfl
      · intro W hSw; (try dsimp only at hSw); go_simp; (try with_reducible rfl)
      try simp only [Act.put, List.setIfInBounds_toArray, List.set_cons_zero, List.set_cons_succ]
      refine' wpAnyH_take (i := 10) (oi := _) (v := _) rfl (by kernel_rfl) (by kernel_rfl) (by kernel_rfl) (fun _ _ _ h => h) (Or.inl ⟨?_, ?_⟩) (by assumption) ?_
      rotate_left
      all_goals (try simp only [List.getElem_toArray, List.getElem_cons_succ, List.getElem_cons_zero])
      · rfl
      · intro W hSw; (try dsimp only at hSw); go_simp; (try with_reducible rfl)
      try simp only [Act.put, List.setIfInBounds_toArray, List.set_cons_zero, List.set_cons_succ]
      refine' wpAnyH_take (i := 11) (oi := _) (v := _) rfl (by kernel_rfl) (by kernel_rfl) (by kernel_rfl) (fun _ _ _ h => h) (Or.inl ⟨?_, ?_⟩) (by assumption) ?_
      rotate_left
      all_goals (try simp only [List.getElem_toArray, List.getElem_cons_succ, List.getElem_cons_zero])
      · rfl
      · intro W hSw; (try dsimp only at hSw); go_simp; (try with_reducible rfl)
      try simp only [Act.put, List.setIfInBounds_toArray, List.set_cons_zero, List.set_cons_succ]
      refine' wpAnyH_take (i := 12) (oi := _) (v := _) rfl (by kernel_rfl) (by kernel_rfl) (by kernel_rfl) (fun _ _ _ h => h) (Or.inl ⟨?_, ?_⟩) (by assumption) ?_
      rotate_left
      all_goals (try simp only [List.getElem_toArray, List.getElem_cons_succ, List.getElem_cons_zero])
      · rfl
      · intro W hSw; (try dsimp only at hSw); go_simp; (try with_reducible rfl)
      try simp only [Act.put, List.setIfInBounds_toArray, List.set_cons_zero, List.set_cons_succ]
      refine' wpAnyH_take (i := 13) (oi := _) (v := _) rfl (by kernel_rfl) (by kernel_rfl) (by kernel_rfl) (fun _ _ _ h => h) (Or.inl ⟨?_, ?_⟩) (by assumption) ?_
      rotate_left
      all_goals (try simp only [List.getElem_toArray, List.getElem_cons_succ, List.getElem_cons_zero])
      · rfl
      · intro W hSw; (try dsimp only at hSw); go_simp; (try with_reducible rfl)
      try simp only [Act.put, List.setIfInBounds_toArray, List.set_cons_zero, List.set_cons_succ]
      refine wpAnyH_ready (rs := [7]) (by kernel_rfl) (by simp) ?_
      refine AllReadyH.cons (o := _) rfl (fun K hK => ?_) AllReadyH.nil
      try simp only [List.getElem_toArray, List.getElem_cons_succ, List.getElem_cons_zero]
      go_simp
      refine (sign_any _ (x / 16) (q16 x hx8) (by omega) _).mono ?_; rintro e w' ⟨rfl, rfl⟩
      go_wp2_with fail
      refine hK.out _ _ hHeld (fun hHeld => ?_)
      clear hK K
      try simp only [Act.put, List.setIfInBounds_toArray, List.set_cons_zero, List.set_cons_succ]
      refine wpAnyH_ready (rs := [14]) (by kernel_rfl) (by simp) ?_
      refine AllReadyH.cons (o := _) rfl (fun K hK => ?_) AllReadyH.nil
      try simp only [List.getElem_toArray, List.getElem_cons_succ, List.getElem_cons_zero]
      go_simp
      refine (sign_any _ (x % 16) (r16 x hx8) (by omega) _).mono ?_; rintro e w' ⟨rfl, rfl⟩
      go_wp2_with fail
      refine hK.out _ _ hHeld (fun hHeld => ?_)
      clear hK K
      try simp only [Act.put, List.setIfInBounds_toArray, List.set_cons_zero, List.set_cons_succ]
      refine wpAnyH_ready (rs := [15]) (by kernel_rfl) (by simp) ?_
      refine AllReadyH.cons (o := _) rfl (fun K hK => ?_) AllReadyH.nil
      try simp only [List.getElem_toArray, List.getElem_cons_succ, List.getElem_cons_zero]
      go_simp
      refine hK.out _ _ (((hb.alloc (by omega) _).drew.cell (p := ⟨b, off + k, none⟩) hbl).trans hcw) (fun hHeld => ?_)
      clear hK K
      try simp only [Act.put, List.setIfInBounds_toArray, List.set_cons_zero, List.set_cons_succ]
      refine wpAnyH_ready (rs := [16]) (by kernel_rfl) (by simp) ?_
      refine AllReadyH.cons (o := _) rfl (fun K hK => ?_) AllReadyH.nil
      try simp only [List.getElem_toArray, List.getElem_cons_succ, List.getElem_cons_zero]
      rw [if_pos (by rfl)]
      refine step_append_bts _ (.tmp 11) (.tmp 26) 22 rfl w.heap.size 5 i0 Try.underlying22 hi hz0 hz1 hz2 _ (hexL (l.take k)) rfl (hown.alloc _).drew _ _ _ [signC (x / 16), signC (x % 16)] rfl ((Bts.two wr 5 _ _ (signC (x / 16)) (signC (x % 16)) (by rw [signC_toNat _ (by omega)]) (by rw [signC_toNat _ (by omega)])).below (Below.refl _ _).drew) (by rw [hexL_length, List.length_take]; simp; omega) (by simp; omega) ?_; intro v' w2 hown2 hgrow; have hb2 := hgrow _ (hb.alloc (by omega) _).drew
      refine hK.out _ _ ((hb2.cell (p := ⟨b, off + k, none⟩) hbl).trans hcw) (fun hHeld => ?_)
      clear hK K
      try simp only [Act.put, List.setIfInBounds_toArray, List.set_cons_zero, List.set_cons_succ]
      refine' wpAnyH_take (i := 17) (oi := _) (v := _) rfl (by kernel_rfl) (by kernel_rfl) (by kernel_rfl) (fun _ _ _ h => h) (Or.inl ⟨?_, ?_⟩) (by assumption) ?_
      rotate_left
      all_goals (try simp only [List.getElem_toArray, List.getElem_cons_succ, List.getElem_cons_zero])
      · rfl
      · intro W hSw; (try dsimp only at hSw); go_simp; (try with_reducible rfl)
      try simp only [Act.put, List.setIfInBounds_toArray, List.set_cons_zero, List.set_cons_succ]
      refine wpAnyH_done (by kernel_rfl) ?_ _
      go_wp2_with fail
      go_roundw
      case rel => exact ⟨k + 1, by omega, by go_num, by rw [hst.out]; exact hown2, hb2⟩
      case measure => simp [intOf] <;> omega
    · obtain rfl : k = len := by omega
      rw [List.take_of_length_le (by rw [L.out]; omega)] at hown
      obtain ⟨a1, c1, rfl, hB, -⟩ := hown.form
      have hcv := conv8 hB
      go_wp2
      go_ret
      exact ⟨rfl, hb⟩

theorem signN_iff (h x : Nat) (hh : h < 16) (hx : x < 256) : signN h = x ↔ isDig x = true ∧ h = digV x := by
  simp only [signN, isDig, digV, Bool.or_eq_true, decide_eq_true_eq]
  split <;> split <;> omega

theorem digV_lt (x : Nat) (h : isDig x = true) : digV x < 16 := by
  simp only [isDig, digV, Bool.or_eq_true, decide_eq_true_eq] at *
  split <;> omega

/-- The first m bytes that a text tells. -/
def unhexB (l : List UInt8) (m : Nat) : List UInt8 := (List.range m).map fun k => UInt8.ofNat (16 * digV (l[2 * k]?.getD 0).toNat + digV (l[2 * k + 1]?.getD 0).toNat)
theorem unhexB_step (l : List UInt8) (m : Nat) : unhexB l (m + 1) = unhexB l m ++ [UInt8.ofNat (16 * digV (l[2 * m]?.getD 0).toNat + digV (l[2 * m + 1]?.getD 0).toNat)] := by
  rw [unhexB, List.range_succ, List.map_append]; rfl
theorem unhexB_length (l : List UInt8) (m : Nat) : (unhexB l m).length = m := by simp [unhexB]
def hexOk (l : List UInt8) : Bool := l.length % 2 == 0 && l.all fun c => isDig c.toNat
def unhexR (l : List UInt8) : List UInt8 × Int := if hexOk l = true then (unhexB l (l.length / 2), 0) else ([], 10)

theorem unhexR_odd {l : List UInt8} (h : l.length % 2 ≠ 0) : unhexR l = ([], 10) := by rw [unhexR, if_neg (by simp [hexOk, h])]
theorem unhexR_bad {l : List UInt8} (k : Nat) (hk : k < l.length) (h : isDig (l[k]?.getD 0).toNat = false) : unhexR l = ([], 10) := by
  rw [unhexR, if_neg]
  simp only [hexOk, Bool.and_eq_true, List.all_eq_true, not_and]
  intro _ h2
  have := h2 l[k] (List.getElem_mem hk)
  rw [List.getElem?_eq_getElem hk] at h
  simp only [Option.getD_some] at h
  rw [h] at this
  cases this
theorem unhexR_yes {l : List UInt8} (h : l.length % 2 = 0) (hall : ∀ k, k < l.length → isDig (l[k]?.getD 0).toNat = true) : unhexR l = (unhexB l (l.length / 2), 0) := by
  rw [unhexR, if_pos]
  simp only [hexOk, Bool.and_eq_true, List.all_eq_true, h, beq_self_eq_true, true_and]
  intro c hc
  obtain ⟨k, hk, rfl⟩ := List.getElem_of_mem hc
  have := hall k hk
  rwa [List.getElem?_eq_getElem hk] at this

theorem Own8.drewN {E : TypeId} {B : Nat} {w : World} {v : Value} {l : List UInt8} (h : Own8 E B w v l) (n : Nat) : Own8 E B (w.drewN n) v l := h

theorem strOf_size' (a : List UInt8) : (strOf a).size = a.length := by simp [strOf, ByteArray.size]

theorem strOf_get (l : List UInt8) (k : Nat) (h : k < (strOf l).size) : ((strOf l)[k]'h).toNat = (l[k]?.getD 0).toNat := by
  have hk : k < l.length := by rw [strOf_size'] at h; exact h
  rw [List.getElem?_eq_getElem hk]
  rfl

theorem wrap_in (z : Int) (h0 : 0 ≤ z) (h1 : z < 4611686018427387904) : IntKind.i64.wrap z = z := by
  simp only [IntKind.wrap, IntKind.bits, IntKind.signed]
  simp
  omega

theorem run_strOf (l : List UInt8) (i : Int) (k : Nat) (hi : i = (k : Int)) (h : k < l.length) (W : World) : (Instr.index 9 (.string (strOf l)) (.int .i64 i)).run Try.prog W = .ok (.int .u8 ((l[k]?.getD 0).toNat : Int)) W := by
  subst hi
  rw [run_index_string _ _ _ _ _ Try.underlying9, dif_pos ⟨by omega, by rw [strOf_size']; omega⟩]
  rw [← strOf_get l k (by rw [strOf_size']; omega)]
  rfl

end Go.Proofs.Ytidiapdddkknpaa
