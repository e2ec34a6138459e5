/-
  SHA-256: octet's Hex; bytes as text. (Hex is walked as in OctA.)
-/
import Derived.Test.YtmfjhgjplmpecaaDoorShaN
import Derived.Test.YtmfjhgjplmpecaaDoorShaO
import Derived.Deep.RegionHeld3
namespace Go.Proofs.YtmfjhgjplmpecaaDoor
open Go.RowKit Go.Shelf
set_option maxRecDepth 100000

abbrev Byt (l : List Nat) : Prop := ∀ x ∈ l, x < 256
theorem take_snoc8 (l : List UInt8) (k : Nat) (hk : k < l.length) : l.take (k + 1) = l.take k ++ [l[k]?.getD 0] := by
  rw [List.take_add_one, List.getElem?_eq_getElem hk]; rfl
theorem convB {w : World} {a : Option Addr} {len cap : Nat} {l : List UInt8} (h : Bts w a len cap l) :
    (convert 23 9 (.slice a len cap)).run Tryd.prog w = .ok (.string (strOf l)) w :=
  h.convert (P := Tryd.prog) _ _ _ Tryd.underlying23 Tryd.underlying5 Tryd.underlying9

/-- Numbers as bytes. -/
def u8s (l : List Nat) : List UInt8 := l.map UInt8.ofNat
theorem u8s_get (l : List Nat) (h : Byt l) (i : Nat) : ((u8s l)[i]?.getD 0).toNat = l[i]?.getD 0 := by
  by_cases hi : i < l.length
  · have := h _ (List.getElem_mem hi)
    simp [u8s, hi, UInt8.toNat_ofNat']
    omega
  · simp [u8s, List.getElem?_eq_none (show l.length ≤ i by omega)]
theorem u8s_inj {l m : List Nat} (h : Byt l) (k : Byt m) (e : u8s l = u8s m) : l = m := by
  apply List.ext_getElem
  · have := congrArg List.length e; simpa [u8s] using this
  · intro i h1 h2
    have e1 := u8s_get l h i
    have e2 := u8s_get m k i
    rw [e] at e1
    rw [e1] at e2
    rwa [List.getElem?_eq_getElem h1, List.getElem?_eq_getElem h2] at e2

theorem Reads.bts {w : World} {a : Option Addr} {n c : Nat} {l : List Nat} (h : Reads .u8 w a n c l) (hB : Byt l) : Bts w a n c (u8s l) :=
  ⟨by rw [u8s, List.length_map, h.length], h.le, h.max, h.nil, fun hp => by
    obtain ⟨b, off, rfl, hb, hc⟩ := h.cells hp
    exact ⟨b, off, rfl, hb, fun i hi => by rw [hc i hi, u8s_get l hB]⟩⟩

def signN (n : Nat) : Nat := if n < 10 then 48 + n else 87 + n
def signC (n : Nat) : UInt8 := UInt8.ofNat (signN n)

theorem signC_toNat (n : Nat) (h : n < 16) : (signC n).toNat = signN n := by
  simp only [signC, UInt8.toNat_ofNat', signN]
  split <;> omega

/-- Bytes' text. -/
def hexL (l : List UInt8) : List UInt8 := l.flatMap fun c => [signC (c.toNat / 16), signC (c.toNat % 16)]

theorem hexL_step (l : List UInt8) (k : Nat) (hk : k < l.length) : hexL (l.take (k + 1)) = hexL (l.take k) ++ [signC ((l[k]?.getD 0).toNat / 16), signC ((l[k]?.getD 0).toNat % 16)] := by
  rw [take_snoc8 l k hk, hexL, List.flatMap_append]
  rfl

theorem hexL_length (l : List UInt8) : (hexL l).length = 2 * l.length := by
  induction l with
  | nil => rfl
  | cons c l ih => simp only [hexL, List.flatMap_cons, List.length_append, List.length_cons, List.length_nil] at *; omega

/-- 'append(s, x...)' as a step of a drawn region; x is not nil. -/
theorem Own8.drew {E : TypeId} {B : Nat} {w : World} {v : Value} {l : List UInt8} (h : Own8 E B w v l) : Own8 E B w.drew v l := World.ownsRow.drew h

theorem step_append_bts {P : Program} (w : World) {o : Oper} {a : Act} {K : Act → World → Prop} {Q : Exit → Act → World → Prop} (s x : Operand) (t : TypeId)
    (ho : o.op = .call { callee := .builtin .append, args := #[s, x], argTypes := #[t, t] })
    (B E : Nat) (i : TypeInfo) (ht : P.underlying t = some (.slice E)) (hi : P.info? E = some i) (hz : i.zero = some (.int .u8 0)) (hsize : i.size = 1) (hby : i.bytes = 1)
    (v : Value) (l : List UInt8) (hs : a.eval s = v) (hown : Own8 E B w v l) (ad : Addr) (m c : Nat) (l2 : List UInt8) (hx : a.eval x = .slice (some ad) m c) (hb : Bts w (some ad) m c l2)
    (hsum : l.length + m ≤ 140737488355328) (hbase : B ≤ w.heap.size)
    (h : ∀ v' w', Own8 E B w' v' (l ++ l2) → (∀ w0, Below B w0 w → Below B w0 w') → K (a.put o.dst v') w') : o.wp P a w K Q := by
  have hlen := hb.length
  refine wp_append_own w s x t ho B E i (.int .u8 0) 1 1 ht hi hz hsize hby rfl (by decide) v l.length (l.map byt) hs hown ad m c (l2.map byt) hx (by simpa using hlen) hb.news (byts_oneCell _) (by unfold maxLen; omega) (by omega) hbase ?_
  intro v' w' ho' hg _
  refine h v' w' ?_ (fun w0 h0 => h0.grown hg hbase (fun k hk => (hown.lt k hk).1))
  unfold Own8
  rw [List.map_append, List.length_append, hlen]
  exact ho'

theorem Bts.two (w : World) (E : TypeId) (n m : Int) (c d : UInt8) (hn : n = (c.toNat : Int)) (hm : m = (d.toNat : Int)) : Bts (w.alloc (.cells #[.int .u8 n, .int .u8 m] E)) (some ⟨w.heap.size, 0, .none⟩) 2 2 [c, d] := by
  subst hn hm
  refine ⟨rfl, Nat.le_refl _, by unfold maxLen; omega, (fun h => by cases h), fun _ => ⟨w.heap.size, 0, rfl, by simp, fun i hi => ?_⟩⟩
  rw [World.cell?_alloc_at _ _ _ _ (by simp)]
  match i, hi with
  | 0, _ => rfl
  | 1, _ => rfl

theorem dig_get (i : Int) (n : Nat) (hi : i = (n : Int)) (hn : n < 16) (h : i.toNat < (⟨#[48, 49, 50, 51, 52, 53, 54, 55, 56, 57, 97, 98, 99, 100, 101, 102]⟩ : ByteArray).size) : ((⟨#[48, 49, 50, 51, 52, 53, 54, 55, 56, 57, 97, 98, 99, 100, 101, 102]⟩ : ByteArray)[i.toNat]'h).toNat = signN n := by
  subst hi
  have : ∀ n < 16, ∀ h, ((⟨#[48, 49, 50, 51, 52, 53, 54, 55, 56, 57, 97, 98, 99, 100, 101, 102]⟩ : ByteArray)[n]'h).toNat = signN n := by decide
  exact this n hn _

theorem and15 (x : Nat) (hx : x < 256) : bits BinOp.and IntKind.u8 (x : Int) 15 = (x : Int) % 16 := by
  rw [show (15 : Int) = ((15 : Nat) : Int) from rfl, u8_and_nat _ _ hx (by omega), show (15 : Nat) = 2 ^ 4 - 1 from rfl, Nat.and_two_pow_sub_one_eq_mod]
  rfl

set_option maxHeartbeats 800000 in
theorem hex_any (a : Option Addr) (len cap : Nat) (l : List UInt8) (w : World) (h : Bts w a len cap l) (hm : len ≤ 70368744177) :
    Calls Tryd.prog 23 #[.slice a len cap] w fun e w' => e = .returned (.string (strOf (hexL l))) ∧ Below w.heap.size w w' := by
  obtain ⟨i0, hi, hz0, hz1, hz2⟩ := info_parts infoB
  have H := Lib.hid h
  have L := Lib.hid h.length
  clear h
  go_enter Tryd.func23, Tryd.ntmps23
  go_wp2_with (at_make; refine wpList_make_own _ rfl _ _ 23 rfl w.heap.size 5 i0 (.int .u8 0) 1 Tryd.underlying23 hi hz0 hz1 _ _ _ (2 * len) rfl rfl (by simp) (by rw [hz2]; omega) (by unfold maxLen; omega) (Nat.le_refl _) ?_; intro w1 hown0 hgrow0)
  have hb0 : Below w.heap.size w w1 := (Below.refl _ _).grown hgrow0 (Nat.le_refl _) (fun _ h => by cases h)
  have HO := Lib.hid hown0
  clear hown0 hgrow0
  go_loopw [3, 12] (fun v i wr => ∃ k : Nat, k ≤ len ∧ i = .int .i64 k ∧ Own8 5 w.heap.size wr v (hexL (l.take k)) ∧ Below w.heap.size w wr) (fun _ i _ => len - (intOf i).toNat)
  case atStart => exact ⟨0, Nat.zero_le _, rfl, HO.out, hb0⟩
  case round =>
    obtain ⟨k, hk, rfl, hown, hb⟩ := hrel
    have hsz := hb.size
    by_cases hlt : k < len
    · obtain ⟨b, off, rfl, hbl, hc⟩ := (H.out.below hb).cells (by omega)
      have hck := hc k hlt
      have hst := Lib.hid (hexL_step l k (by rw [L.out]; exact hlt))
      have hx8 := UInt8.toNat_lt (l[k]?.getD 0)
      clear hc
      generalize (l[k]?.getD 0).toNat = x at *
      go_wp2
      have hbit := and15 x hx8
      refine wp_region_held_drew (S := fun _ => True) (by kernel_rfl) trivial (fun hHeld => ?_)
      refine' wpAnyH_take (i := 0) (oi := _) (v := _) rfl (by kernel_rfl) (by kernel_rfl) (by kernel_rfl) (fun _ _ _ h => h) (Or.inl ⟨?_, ?_⟩) (by assumption) ?_
      rotate_left
      all_goals (try simp only [List.getElem_toArray, List.getElem_cons_succ, List.getElem_cons_zero])
      · rfl
      · intro W hSw; (try dsimp only at hSw); go_simp; (try with_reducible rfl)
      try simp only [Act.put, List.setIfInBounds_toArray, List.set_cons_zero, List.set_cons_succ]
      refine' wpAnyH_take (i := 1) (oi := _) (v := _) rfl (by kernel_rfl) (by kernel_rfl) (by kernel_rfl) (fun _ _ _ h => h) (Or.inl ⟨?_, ?_⟩) (by assumption) ?_
      rotate_left
      all_goals (try simp only [List.getElem_toArray, List.getElem_cons_succ, List.getElem_cons_zero])
      · rfl
      · intro W hSw; (try dsimp only at hSw); go_simp; (try with_reducible rfl)
      try simp only [Act.put, List.setIfInBounds_toArray, List.set_cons_zero, List.set_cons_succ]
      refine' wpAnyH_take (i := 2) (oi := _) (v := _) rfl (by kernel_rfl) (by kernel_rfl) (by kernel_rfl) (fun _ _ _ h => h) (Or.inl ⟨?_, ?_⟩) (by assumption) ?_
      rotate_left
      all_goals (try simp only [List.getElem_toArray, List.getElem_cons_succ, List.getElem_cons_zero])
      · rfl
      · intro W hSw; (try dsimp only at hSw); go_simp; (try with_reducible rfl)
      try simp only [Act.put, List.setIfInBounds_toArray, List.set_cons_zero, List.set_cons_succ]
      refine' wpAnyH_take (i := 3) (oi := _) (v := (.int .u8 (signN (x / 16) : Nat))) rfl (by kernel_rfl) (by kernel_rfl) (by kernel_rfl) (fun _ _ _ h => h) (Or.inl ⟨?_, ?_⟩) (by assumption) ?_
      all_goals (try simp only [List.getElem_toArray, List.getElem_cons_succ, List.getElem_cons_zero])
      · rfl
      · intro W hSw; (try dsimp only at hSw); go_simp; (first | rw [dif_pos (by omega)] | skip); simp only [Result.andThen]; exact congrArg (fun z : Nat => Result.ok (Next.value (.int .u8 (z : Int))) W) (dig_get _ (x / 16) (by omega) (by omega) _)
      try simp only [Act.put, List.setIfInBounds_toArray, List.set_cons_zero, List.set_cons_succ]
      refine' wpAnyH_take (i := 4) (oi := _) (v := _) rfl (by kernel_rfl) (by kernel_rfl) (by kernel_rfl) (fun _ _ _ h => h) (Or.inl ⟨?_, ?_⟩) (by assumption) ?_
      rotate_left
      all_goals (try simp only [List.getElem_toArray, List.getElem_cons_succ, List.getElem_cons_zero])
      · rfl
      · intro W hSw; (try dsimp only at hSw); go_simp; (try with_reducible rfl)
      try simp only [Act.put, List.setIfInBounds_toArray, List.set_cons_zero, List.set_cons_succ]
      refine' wpAnyH_take (i := 5) (oi := _) (v := _) rfl (by kernel_rfl) (by kernel_rfl) (by kernel_rfl) (fun _ _ _ h => h) (Or.inl ⟨?_, ?_⟩) (by assumption) ?_
      rotate_left
      all_goals (try simp only [List.getElem_toArray, List.getElem_cons_succ, List.getElem_cons_zero])
      · rfl
      · intro W hSw; (try dsimp only at hSw); go_simp; (try with_reducible rfl)
      try simp only [Act.put, List.setIfInBounds_toArray, List.set_cons_zero, List.set_cons_succ]
      refine' wpAnyH_take (i := 6) (oi := _) (v := (.int .u8 (signN (x % 16) : Nat))) rfl (by kernel_rfl) (by kernel_rfl) (by kernel_rfl) (fun _ _ _ h => h) (Or.inl ⟨?_, ?_⟩) (by assumption) ?_
      all_goals (try simp only [List.getElem_toArray, List.getElem_cons_succ, List.getElem_cons_zero])
      · rfl
      · intro W hSw; (try dsimp only at hSw); go_simp; (first | rw [dif_pos (by omega)] | skip); simp only [Result.andThen]; exact congrArg (fun z : Nat => Result.ok (Next.value (.int .u8 (z : Int))) W) (dig_get _ (x % 16) (by omega) (by omega) _)
      try simp only [Act.put, List.setIfInBounds_toArray, List.set_cons_zero, List.set_cons_succ]
      refine wpAnyH_ready (rs := [7]) (by kernel_rfl) (by simp) ?_
      refine AllReadyH.cons (o := _) rfl (fun K hK => ?_) AllReadyH.nil
      try simp only [List.getElem_toArray, List.getElem_cons_succ, List.getElem_cons_zero]
      go_simp
      refine hK.out _ _ trivial (fun hHeld => ?_)
      clear hK K
      try simp only [Act.put, List.setIfInBounds_toArray, List.set_cons_zero, List.set_cons_succ]
      refine wpAnyH_ready (rs := [8]) (by kernel_rfl) (by simp) ?_
      refine AllReadyH.cons (o := _) rfl (fun K hK => ?_) AllReadyH.nil
      try simp only [List.getElem_toArray, List.getElem_cons_succ, List.getElem_cons_zero]
      rw [if_pos (by rfl)]
      refine step_append_bts _ (.tmp 16) (.tmp 23) 23 rfl w.heap.size 5 i0 Tryd.underlying23 hi hz0 hz1 hz2 _ (hexL (l.take k)) rfl (hown.alloc _).drew _ _ _ [signC (x / 16), signC (x % 16)] rfl ((Bts.two wr 5 _ _ (signC (x / 16)) (signC (x % 16)) (by rw [signC_toNat _ (by omega)]) (by rw [signC_toNat _ (by omega)])).below (Below.refl _ _).drew) (by rw [hexL_length, List.length_take]; simp; omega) (by simp; omega) ?_; intro v' w2 hown2 hgrow; have hb2 := hgrow _ (hb.alloc (by omega) _).drew
      refine hK.out _ _ trivial (fun hHeld => ?_)
      clear hK K
      try simp only [Act.put, List.setIfInBounds_toArray, List.set_cons_zero, List.set_cons_succ]
      refine' wpAnyH_take (i := 9) (oi := _) (v := _) rfl (by kernel_rfl) (by kernel_rfl) (by kernel_rfl) (fun _ _ _ h => h) (Or.inl ⟨?_, ?_⟩) (by assumption) ?_
      rotate_left
      all_goals (try simp only [List.getElem_toArray, List.getElem_cons_succ, List.getElem_cons_zero])
      · rfl
      · intro W hSw; (try dsimp only at hSw); go_simp; (try with_reducible rfl)
      try simp only [Act.put, List.setIfInBounds_toArray, List.set_cons_zero, List.set_cons_succ]
      refine wpAnyH_done (by kernel_rfl) ?_ _
      go_wp2_with fail
      go_roundw
      case rel => exact ⟨k + 1, by omega, by go_num, by rw [hst.out]; exact hown2, hb2⟩
      case measure => simp [intOf] <;> omega
    · obtain rfl : k = len := by omega
      rw [List.take_of_length_le (by rw [L.out]; omega)] at hown
      obtain ⟨a1, c1, rfl, hB, -⟩ := hown.form
      have hcv := convB hB
      go_wp2
      go_ret
      exact ⟨rfl, hb⟩

end Go.Proofs.YtmfjhgjplmpecaaDoor
