/-
  HOUR: strconv.Atoi AT EVERY TEXT, AND parts.
-/
import Derived.Test.YtholkbgkkfndhaaDoorHourB
namespace Go.Proofs.YtholkbgkkfndhaaDoor
open Go.RowKit
set_option maxRecDepth 100000

/-- A variable of the library that holds an error, or nil. -/
def ErrAt (w : World) (g : Nat) : Prop := ∃ v, w.cell? ⟨g, 0, none⟩ = some v ∧ (v = .nilIface ∨ ∃ te pe, v = .iface te pe)
theorem ErrAt.below {w w' : World} {g : Nat} (h : ErrAt w g) (hb : Below w.heap.size w w') : ErrAt w' g := by
  obtain ⟨v, hv, hk⟩ := h
  exact ⟨v, (hb.cell (p := ⟨g, 0, none⟩) (World.block_lt_of_cell? w ⟨g, 0, none⟩ hv)).trans hv, hk⟩

/-- What strconv reads. -/
structure Libs (w : World) : Prop where
  tab : Tab w
  syn : ErrAt w 4
  rng : ErrAt w 5
theorem Libs.below {w w' : World} (h : Libs w) (hb : Below w.heap.size w w') : Libs w' := ⟨h.tab.below hb, h.syn.below hb, h.rng.below hb⟩

def atoiR (l : List UInt8) : Int × Bool :=
  match Lib.atoiAll l with
  | .ok v => (v, true)
  | .range => (Lib.atoiSat l, false)
  | _ => (0, false)

theorem bytes_belowH (w : World) (e : TypeId) (s : ByteArray) : Below w.heap.size w (Lib.bytesWorld w e s) := ⟨rfl, rfl, rfl, by rw [Lib.bytesWorld_size]; omega, fun j hj => Lib.bytesWorld_at_old w e s j hj⟩

/-- How Atoi ends: the number, and an error if it is none. -/
def RetsAtoi (l : List UInt8) (e : Ending) : Prop :=
  ((atoiR l).2 = true ∧ e = .returned (.tuple #[.int .i64 (atoiR l).1, .nilIface])) ∨
    ((atoiR l).2 = false ∧ ∃ (t : TypeId) (N : Nat), e = .returned (.tuple #[.int .i64 (atoiR l).1, .iface t (.pointer (some ⟨N, 0, none⟩))]))

theorem atoi_any (l : List UInt8) (hl : l.length ≤ 1000000) (w : World) (hL : Libs w) :
    Calls Tryd.prog 56 #[.string ⟨l.toArray⟩] w fun e w' => RetsAtoi l e ∧ Below w.heap.size w w' := by
  have hs : (⟨l.toArray⟩ : ByteArray).size = l.length := by show l.toArray.size = _; rw [List.size_toArray]
  rcases h : Lib.atoiAll l with v | _ | _
  · refine (Tryd.strconv_Atoi_ok ⟨l.toArray⟩ (by omega) v h w).mono fun e w' ⟨he, hw⟩ => ⟨Or.inl ⟨by simp only [atoiR, h], by rw [he]; simp only [atoiR, h]⟩, ?_⟩
    rcases hw with rfl | ⟨t, rfl⟩
    · exact Below.refl _ _
    · exact bytes_belowH _ _ _
  · obtain ⟨v, hv, hk⟩ := hL.syn
    have h1 : atoiR l = (0, false) := by simp only [atoiR, h]
    exact (Tryd.strconv_Atoi_syntax ⟨l.toArray⟩ (by omega) h v w hv hk).mono fun e w' ⟨N, he, _, _, hb⟩ => ⟨Or.inr (by rw [h1]; exact ⟨rfl, _, N, he⟩), hb⟩
  · obtain ⟨v, hv, hk⟩ := hL.rng
    have h1 : atoiR l = (Lib.atoiSat l, false) := by simp only [atoiR, h]
    exact (Tryd.strconv_Atoi_range ⟨l.toArray⟩ (by omega) h v w hv hk).mono fun e w' ⟨N, he, _, _, hb⟩ => ⟨Or.inr (by rw [h1]; exact ⟨rfl, _, N, he⟩), hb⟩

/-- What stands between a point and the Z. -/
def leftR (s : List UInt8) : List UInt8 := Lib.trimSuffix (Lib.trimPrefix s [46]) [90]
def partsR (s : List UInt8) : Int := if 3 < (leftR s).length then 0 else (atoiR (leftR s ++ [48, 48, 48].drop (leftR s).length)).1

theorem leftR_length (s : List UInt8) : (leftR s).length ≤ s.length := by
  unfold leftR Lib.trimSuffix Lib.trimPrefix
  split <;> split <;> simp <;> omega

theorem parts_any (s : List UInt8) (hs : s.length ≤ 1000) (w : World) (hL : Libs w) :
    Calls Tryd.prog 43 #[.string ⟨s.toArray⟩] w fun e w' => e = .returned (.int .i64 (partsR s)) ∧ Below w.heap.size w w' := by
  have HL := Lib.hid hL
  clear hL
  have hll := leftR_length s
  have hp : ∀ l : List UInt8, leftR s = l → partsR s = if 3 < l.length then 0 else (atoiR (l ++ [48, 48, 48].drop l.length)).1 := fun l h => by rw [← h]; rfl
  go_enter Tryd.func43, Tryd.ntmps43
  go_wp2_with fail
  refine (Tryd.strings_TrimPrefix ⟨s.toArray⟩ ⟨#[46]⟩ _).mono ?_
  rintro e w1 ⟨rfl, rfl⟩
  go_wp2_with fail
  refine (Tryd.strings_TrimSuffix _ ⟨#[90]⟩ _ (by
    show (Lib.trimPrefix s [46]).toArray.size ≤ _
    rw [List.size_toArray]
    unfold Lib.trimPrefix
    split
    · rw [List.length_drop]; omega
    · omega)).mono ?_
  rintro e w1 ⟨rfl, rfl⟩
  have hle : Lib.trimSuffix (⟨(Lib.trimPrefix (⟨s.toArray⟩ : ByteArray).data.toList (⟨#[46]⟩ : ByteArray).data.toList).toArray⟩ : ByteArray).data.toList (⟨#[90]⟩ : ByteArray).data.toList = leftR s := rfl
  rw [hle]
  clear hle
  generalize hl : leftR s = l at *
  have HP := Lib.hid (hp l rfl)
  clear hp hl
  have hll2 : l.length ≤ 1000 := by omega
  by_cases h3 : 3 < l.length
  · have h0 := Lib.hid (show partsR s = 0 by rw [HP.out, if_pos h3])
    clear HP
    go_wp2
    go_ret
    exact ⟨by rw [h0.out]; rfl, Below.refl _ _⟩
  · have h0 := Lib.hid (show partsR s = (atoiR (l ++ [48, 48, 48].drop l.length)).1 by rw [HP.out, if_neg h3])
    have hx : (⟨#[48, 48, 48]⟩ : ByteArray).extract l.length 3 = ⟨(([48, 48, 48] : List UInt8).drop l.length).toArray⟩ := str_from [48, 48, 48] l.length
    have hyl : (([48, 48, 48] : List UInt8).drop l.length).length ≤ 3 := by rw [List.length_drop]; exact Nat.sub_le _ _
    have HX := Lib.hid hx
    clear hx HP
    go_wp2_with fail
    rw [HX.out, str_add]
    generalize hz : l ++ ([48, 48, 48] : List UInt8).drop l.length = z at *
    have hzl : z.length ≤ 1000000 := by rw [← hz, List.length_append]; omega
    clear hz hyl HX
    refine (atoi_any z hzl _ HL.out).mono ?_
    rintro e w2 ⟨hr, hb⟩
    have HB := Lib.hid hb
    clear hb
    rcases hr with ⟨_, rfl⟩ | ⟨_, et, N, rfl⟩
    · go_wp2
      go_ret
      exact ⟨by rw [h0.out]; rfl, HB.out⟩
    · go_wp2
      go_ret
      exact ⟨by rw [h0.out]; rfl, HB.out⟩

end Go.Proofs.YtholkbgkkfndhaaDoor
