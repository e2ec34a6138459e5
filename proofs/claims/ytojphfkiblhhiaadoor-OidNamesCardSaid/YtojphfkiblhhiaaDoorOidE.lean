/-
  OID: strconv.ParseUint AT EVERY TEXT, strings.Split AT A POINT, AND Parse.
-/
import Derived.Test.YtojphfkiblhhiaaDoorOidD
namespace Go.Proofs.YtojphfkiblhhiaaDoor
open Go.RowKit Go.Shelf
attribute [local go_sem] Oper.semAt_some
set_option maxRecDepth 100000

/-- A variable of the library that holds an error, or nil. -/
def ErrAt (w : World) (g : Nat) : Prop := ∃ v, w.cell? ⟨g, 0, none⟩ = some v ∧ (v = .nilIface ∨ ∃ te pe, v = .iface te pe)
theorem ErrAt.below {w w' : World} {g : Nat} (h : ErrAt w g) (hb : Below w.heap.size w w') : ErrAt w' g := by
  obtain ⟨v, hv, hk⟩ := h
  exact ⟨v, (hb.cell (p := ⟨g, 0, none⟩) (World.block_lt_of_cell? w ⟨g, 0, none⟩ hv)).trans hv, hk⟩

/-- What the library reads. -/
structure Libs (w : World) : Prop where
  tab : Tab w
  syn : ErrAt w 2
  rng : ErrAt w 3
  most : ∃ m, w.cell? ⟨4, 0, none⟩ = some (.int .i64 m)
theorem Libs.below {w w' : World} (h : Libs w) (hb : Below w.heap.size w w') : Libs w' := by
  refine ⟨h.tab.below hb, h.syn.below hb, h.rng.below hb, ?_⟩
  obtain ⟨m, hm⟩ := h.most
  exact ⟨m, (hb.cell (p := ⟨_, 0, none⟩) (World.block_lt_of_cell? w ⟨_, 0, none⟩ hm)).trans hm⟩

theorem bytes_belowO (w : World) (e : TypeId) (s : ByteArray) : Below w.heap.size w (Lib.bytesWorld w e s) := ⟨rfl, rfl, rfl, by rw [Lib.bytesWorld_size]; omega, fun j hj => Lib.bytesWorld_at_old w e s j hj⟩

/-- How ParseUint ends: the number, or an error. -/
def RetsU (l : List UInt8) (e : Ending) : Prop :=
  (∃ u : Nat, Lib.parseUintB 64 l = .ok u ∧ e = .returned (.tuple #[.int .u64 (u : Int), .nilIface])) ∨
    ((∀ u, Lib.parseUintB 64 l ≠ .ok u) ∧ ∃ (v : Int) (t : TypeId) (N : Nat), e = .returned (.tuple #[.int .u64 v, .iface t (.pointer (some ⟨N, 0, none⟩))]))

theorem parseU_any (l : List UInt8) (hl : l.length ≤ 1000000) (w : World) (hL : Libs w) :
    Calls Tryd.prog 30 #[.string ⟨l.toArray⟩, .int .i64 10, .int .i64 64] w fun e w' => RetsU l e ∧ Below w.heap.size w w' := by
  have hs : (⟨l.toArray⟩ : ByteArray).size = l.length := by show l.toArray.size = _; rw [List.size_toArray]
  rcases h : Lib.parseUintB 64 l with v | _ | _
  · refine (Tryd.strconv_ParseUint_10_at64_ok ⟨l.toArray⟩ (by omega) v h w).mono fun e w' ⟨he, hw⟩ => ⟨Or.inl ⟨v, h, he⟩, ?_⟩
    rcases hw with rfl | rfl
    · exact Below.refl _ _
    · exact bytes_belowO _ _ _
  · obtain ⟨v, hv, hk⟩ := hL.syn
    exact (Tryd.strconv_ParseUint_10_at64_syntax ⟨l.toArray⟩ (by omega) h v w hv hk).mono fun e w' ⟨N, he, _, _, hb⟩ => ⟨Or.inr ⟨(fun u e => by rw [h] at e; cases e), _, _, N, he⟩, hb⟩
  · obtain ⟨v, hv, hk⟩ := hL.rng
    exact (Tryd.strconv_ParseUint_10_at64_range ⟨l.toArray⟩ (by omega) h v w hv hk).mono fun e w' ⟨N, he, _, _, hb⟩ => ⟨Or.inr ⟨(fun u e => by rw [h] at e; cases e), _, _, N, he⟩, hb⟩

theorem split_any (s : List UInt8) (hs : s.length ≤ 1000000) (w : World) (hL : Libs w) :
    Calls Tryd.prog 29 #[.string ⟨s.toArray⟩, .string ⟨#[46]⟩] w fun e w' => e = .returned (.slice (some ⟨w.heap.size, 0, none⟩) (splitS s).length (splitS s).length) ∧
      w' = w.alloc (.cells ((splitS s).map strV).toArray 9) := by
  have hz : (⟨s.toArray⟩ : ByteArray).size = s.length := by show s.toArray.size = _; rw [List.size_toArray]
  obtain ⟨m, hm⟩ := hL.most
  have hd := Lib.splitB_data ⟨#[46]⟩ 0 (Lib.countB ⟨s.toArray⟩ ⟨#[46]⟩) ⟨s.toArray⟩
  have hc : Lib.countB ⟨s.toArray⟩ ⟨#[46]⟩ = s.count 46 := Lib.count_one 46 s
  have hall := Lib.splitB_all ⟨#[46]⟩ (by decide) 0 _ ⟨s.toArray⟩ rfl
  have hk : Lib.splitK [46] 0 (Lib.countB ⟨s.toArray⟩ ⟨#[46]⟩) s = splitS s := by rw [hc]; exact splitK_all s
  have hd2 : (Lib.splitB ⟨#[46]⟩ 0 (Lib.countB ⟨s.toArray⟩ ⟨#[46]⟩) ⟨s.toArray⟩).map (·.data.toList) = splitS s := hd.trans hk
  refine (Tryd.strings_Split ⟨s.toArray⟩ ⟨#[46]⟩ m w (by omega) hm (by decide)).mono fun e w' ⟨he, hw⟩ => ?_
  have hn : Lib.countB ⟨s.toArray⟩ ⟨#[46]⟩ + 1 = (splitS s).length := by rw [← hd2, List.length_map, hall]
  have hv : (Lib.splitB ⟨#[46]⟩ 0 (Lib.countB ⟨s.toArray⟩ ⟨#[46]⟩) ⟨s.toArray⟩).map Value.string = (splitS s).map strV := by
    rw [← hd2, List.map_map]
    exact List.map_congr_left fun x _ => rfl
  rw [hn] at he
  rw [hv] at hw
  exact ⟨he, hw⟩

/-- These pieces spell these numbers. -/
def Spell (ps : List (List UInt8)) (L : List Nat) : Prop := ps.map (Lib.parseUintB 64) = L.map Lib.NumEnd.ok
theorem spell_text {l : List Nat} {s : List UInt8} (h : IsTextO l s) : Spell (splitS s) l := by
  have := split_text l h.1.some
  rw [h.2] at this
  unfold Spell
  rw [this, List.map_map]
  exact List.map_congr_left fun x hx => parse64_dec x (h.1.lt x hx)
theorem Spell.unique {ps : List (List UInt8)} {L M : List Nat} (h : Spell ps L) (k : Spell ps M) : L = M := by
  unfold Spell at h k
  rw [h] at k
  have hi : ∀ (L M : List Nat), L.map Lib.NumEnd.ok = M.map Lib.NumEnd.ok → L = M := by
    intro L
    induction L with
    | nil => intro M h; cases M with
      | nil => rfl
      | cons _ _ => simp at h
    | cons x L ih => intro M h; cases M with
      | nil => simp at h
      | cons y M =>
        rw [List.map_cons, List.map_cons, List.cons.injEq, Lib.NumEnd.ok.injEq] at h
        rw [h.1, ih M h.2]
  exact hi L M k

theorem splitS_len : ∀ (s : List UInt8), (splitS s).length ≤ s.length + 1 ∧ ∀ p ∈ splitS s, p.length ≤ s.length
  | [] => ⟨Nat.le_refl _, fun p hp => by rw [splitS, List.mem_singleton] at hp; rw [hp]; exact Nat.le_refl _⟩
  | b :: r => by
    obtain ⟨h1, h2⟩ := splitS_len r
    rw [splitS]
    split
    · refine ⟨by simp; omega, fun p hp => ?_⟩
      rw [List.mem_cons] at hp
      rcases hp with rfl | hp
      · simp
      · have := h2 p hp; simp; omega
    · cases h : splitS r with
      | nil => exact absurd h (splitS_some r)
      | cons q t =>
        rw [h] at h1 h2
        refine ⟨by simp [headS] at h1 ⊢; omega, fun p hp => ?_⟩
        rw [headS, List.mem_cons] at hp
        rcases hp with rfl | hp
        · have := h2 q List.mem_cons_self; simp; omega
        · have := h2 p (List.mem_cons_of_mem _ hp); simp; omega

/-- No piece that is no number, in a text of numbers. -/
theorem no_text {s : List UInt8} {i : Nat} {p : List UInt8} (hp : (splitS s)[i]? = some p) (h : ∀ u, Lib.parseUintB 64 p ≠ .ok u) : parseR s = ([], 140) := by
  refine parseR_no fun l hl => ?_
  have hs := spell_text hl
  unfold Spell at hs
  have h1 : ((splitS s).map (Lib.parseUintB 64))[i]? = some (Lib.parseUintB 64 p) := by rw [List.getElem?_map, hp]; rfl
  rw [hs, List.getElem?_map] at h1
  cases h2 : l[i]? with
  | none => rw [h2] at h1; cases h1
  | some u =>
    rw [h2] at h1
    simp only [Option.map_some, Option.some.injEq] at h1
    exact h u h1.symm
end Go.Proofs.YtojphfkiblhhiaaDoor
