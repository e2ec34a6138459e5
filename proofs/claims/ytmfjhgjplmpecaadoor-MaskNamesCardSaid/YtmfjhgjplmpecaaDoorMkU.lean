/-
  Layer 8: Mask.
-/
import Derived.Test.YtmfjhgjplmpecaaDoorMkS
import Derived.Maps.OwnIn
namespace Go.Proofs.YtmfjhgjplmpecaaDoor
open Go.RowKit Go.Shelf
set_option maxRecDepth 100000
attribute [local go_sem] Oper.semAt_some

/-- The first pieces; a mask. -/
def maskAll (h : Nat) (seed : List Nat) : Nat → List Nat
  | 0 => []
  | k + 1 => maskAll h seed k ++ pieceN h seed k
def maskN (h : Nat) (seed : List Nat) (size : Nat) : List Nat := (maskAll h seed size).take size
theorem mHash_len {h : Nat} (hh : IsHash h) (m : List Nat) : (mHash h m).length = mSize h := by
  rcases hh with rfl | rfl | rfl | rfl
  · exact hashN_len m (.inl rfl)
  · exact hashN_len m (.inr rfl)
  · exact L5.hashN_len m (.inl rfl)
  · exact L5.hashN_len m (.inr rfl)
theorem maskAll_len {h : Nat} (hh : IsHash h) (seed : List Nat) (k : Nat) : (maskAll h seed k).length = k * mSize h := by
  induction k with
  | zero => simp [maskAll]
  | succ k ih => rw [maskAll, List.length_append, ih, pieceN, mHash_len hh, Nat.succ_mul]
theorem maskAll_byt {h : Nat} (hh : IsHash h) (seed : List Nat) (k : Nat) : Byt (maskAll h seed k) := by
  induction k with
  | zero => intro x hx; cases hx
  | succ k ih => exact fun x hx => (List.mem_append.1 hx).elim (ih x) (mHash_byt hh _ x)
theorem maskAll_pre (h : Nat) (seed : List Nat) {k m : Nat} (hkm : k ≤ m) : ∃ t, maskAll h seed m = maskAll h seed k ++ t := by
  induction m with
  | zero => exact ⟨[], by rw [show k = 0 by omega, List.append_nil]⟩
  | succ m ih =>
    rcases Nat.lt_or_ge m k with hlt | hge
    · exact ⟨[], by rw [show k = m + 1 by omega, List.append_nil]⟩
    · obtain ⟨t, ht⟩ := ih hge
      exact ⟨t ++ pieceN h seed m, by rw [maskAll, ht, List.append_assoc]⟩
theorem maskAll_take {h : Nat} (hh : IsHash h) (seed : List Nat) {k m s : Nat} (hk : s ≤ k * mSize h) (hm : s ≤ m * mSize h) : (maskAll h seed k).take s = (maskAll h seed m).take s := by
  rcases Nat.le_total k m with h1 | h1
  · obtain ⟨t, ht⟩ := maskAll_pre h seed h1
    rw [ht, List.take_append_of_le_length (by rw [maskAll_len hh]; exact hk)]
  · obtain ⟨t, ht⟩ := maskAll_pre h seed h1
    rw [ht, List.take_append_of_le_length (by rw [maskAll_len hh]; exact hm)]
/-- The last piece fills the mask up. -/
theorem mask_fill {h : Nat} (hh : IsHash h) (seed : List Nat) {k s : Nat} (hk : k * mSize h ≤ s) (hs : s ≤ k * mSize h + mSize h) : maskAll h seed k ++ (pieceN h seed k).take (s - k * mSize h) = maskN h seed s := by
  have h28 := (mSize_le hh).1
  have e : maskN h seed s = (maskAll h seed (k + 1)).take s := by
    refine maskAll_take hh seed ?_ (by rw [Nat.succ_mul]; omega)
    exact Nat.le_mul_of_pos_right s (by omega)
  rw [e, maskAll, List.take_append, maskAll_len hh]
  congr 1
  exact (List.take_of_length_le (by rw [maskAll_len hh]; exact hk)).symm

theorem OwnQ.keptW {q : IntKind} {E : TypeId} {B : Nat} {W W' : World} {v : Value} {l : List Nat} {row : Option Nat} (h : OwnQ q E B W v l) (hg : W.grownBy W' row) (hr : ∀ r, row = some r → ∃ o : Obj, W.heap[r]? = some o ∧ o.isCells = false) : OwnQ q E B W' v l := by
  obtain ⟨h1, h2⟩ := h
  refine ⟨h1, ?_⟩
  rcases h2 with h2 | ⟨g', cap', cur, e, hB, hh, r⟩
  · exact .inl h2
  · exact .inr ⟨g', cap', cur, e, hB, (hg.block g' (Array.getElem?_eq_some_iff.1 hh).1 (fun hc => by
      obtain ⟨o, ho, hoc⟩ := hr g' hc.symm
      rw [hh] at ho
      cases ho
      cases hoc)).trans hh, r⟩
theorem Reads.keptW {q : IntKind} {W W' : World} {a : Option Addr} {n c : Nat} {l : List Nat} {row : Option Nat} (h : Reads q W a n c l) (hg : W.grownBy W' row) (hr : ∀ r, row = some r → ∃ o : Obj, W.heap[r]? = some o ∧ o.isCells = false) : Reads q W' a n c l :=
  ⟨h.length, h.le, h.max, h.nil, fun hp => by
    obtain ⟨b, off, rfl, hlt, hc⟩ := h.cells hp
    refine ⟨b, off, rfl, Nat.lt_of_lt_of_le hlt hg.size, fun i hi => (World.cell?_of_block (a := ⟨b, off + i, .none⟩) (hg.block b hlt (fun e => ?_))).trans (hc i hi)⟩
    obtain ⟨o, ho, hoc⟩ := hr b e.symm
    have h0 := hc 0 hp
    cases o with
    | cells _ _ _ => cases hoc
    | _ => simp [World.cell?, show W.heap[b]? = _ from ho] at h0⟩
theorem appendedM {q : IntKind} {E n₀ : Nat} {W w1 : World} {v : Value} {l : List Nat} (hrow : OwnQ q E n₀ W v l) (hn₀ : n₀ ≤ W.heap.size) (hgrow : W.grownBy w1 v.ownBlock) :
    KeepsOthers W w1 ∧ (∀ w0, Below n₀ w0 W → Below n₀ w0 w1) ∧ (∀ b t u, Boxed W b t u → v.ownBlock ≠ some b → Boxed w1 b t u) := by
  refine ⟨?_, ?_, fun b t u hb hne => hb.kept hgrow (fun e => hne e.symm)⟩
  · refine KeepsOthers.of_grownBy hgrow fun j o ej hj => ?_
    rcases hrow.2 with ⟨rfl, _⟩ | ⟨g, cap, cur, rfl, _, hgb, _⟩
    · simp [Value.ownBlock] at ej
    · obtain rfl : g = j := by simpa [Value.ownBlock] using ej
      rw [hgb] at hj; cases hj; rfl
  · intro w0 h0
    refine h0.grown hgrow hn₀ fun j ej => ?_
    rcases hrow.2 with ⟨rfl, _⟩ | ⟨g, cap, cur, rfl, hb, _, _⟩
    · simp [Value.ownBlock] at ej
    · obtain rfl : g = j := by simpa [Value.ownBlock] using ej
      exact hb
theorem ownBase {q : IntKind} {E B : Nat} {W : World} {v : Value} {l : List Nat} (h : OwnQ q E B W v l) {b : Nat} (hb : v.ownBlock = some b) : B ≤ b ∧ b < W.heap.size := by
  rcases h.2 with ⟨rfl, _⟩ | ⟨g, cap, cur, rfl, hB, hgb, _⟩
  · simp [Value.ownBlock] at hb
  · obtain rfl : g = b := by simpa [Value.ownBlock] using hb
    exact ⟨hB, (Array.getElem?_eq_some_iff.1 hgb).1⟩
theorem own_sets {q : IntKind} {E B b i : Nat} {W : World} {v u : Value} {l : List Nat} (h : OwnQ q E B W v l) (hne : v.ownBlock ≠ some b) : OwnQ q E B (W.setCell ⟨b, i, none⟩ u) v l := by
  obtain ⟨h1, h2⟩ := h
  refine ⟨h1, ?_⟩
  rcases h2 with h2 | ⟨g', cap', cur, rfl, hB, hh, r⟩
  · exact .inl h2
  · exact .inr ⟨g', cap', cur, rfl, hB, (Below.heap_setCell W ⟨b, i, none⟩ u g' (fun e => hne (by rw [show g' = b from e]; rfl))).trans hh, r⟩

theorem own_ne_box {q : IntKind} {E B b t : Nat} {W : World} {v u : Value} {l : List Nat} (h : OwnQ q E B W v l) (hb : Boxed W b t u) (hne : t ≠ E) : v.ownBlock ≠ some b := by
  rcases h.2 with ⟨rfl, _⟩ | ⟨g, cap, cur, rfl, _, hgb, _⟩
  · simp [Value.ownBlock]
  · intro e
    obtain rfl : g = b := by simpa [Value.ownBlock] using e
    rw [show W.heap[g]? = _ from hb] at hgb
    simp only [Option.some.injEq, Obj.cells.injEq] at hgb
    exact hne hgb.2.1
theorem step_append_M {P : Program} (q : IntKind) (w : World) {o : Oper} {a : Act} {K : Act → World → Prop} {Q : Exit → Act → World → Prop} (s x : Operand) (t : TypeId)
    (ho : o.op = .call { callee := .builtin .append, args := #[s, x], argTypes := #[t, t] })
    (B E by' : Nat) (i : TypeInfo) (ht : P.underlying t = some (.slice E)) (hi : P.info? E = some i) (hz : i.zero = some (.int q 0)) (hsize : i.size = 1) (hby : i.bytes = by') (hby8 : by' ≤ 8)
    (v : Value) (l : List Nat) (hs : a.eval s = v) (hown : OwnQ q E B w v l) (ad : Addr) (m c : Nat) (l2 : List Nat) (hx : a.eval x = .slice (some ad) m c) (hb : Reads q w (some ad) m c l2)
    (hsum : l.length + m ≤ 17592186044416) (hbase : B ≤ w.heap.size)
    (h : ∀ v' w', OwnQ q E B w' v' (l ++ l2) → w.grownBy w' v.ownBlock → K (a.put o.dst v') w') : o.wp P a w K Q := by
  have hlen := hb.length
  have hbb : (l.length + m) * by' ≤ 140737488355328 := Nat.le_trans (Nat.mul_le_mul hsum hby8) (by decide)
  refine wp_append_own w s x t ho B E i (.int q 0) 1 by' ht hi hz hsize hby rfl (by decide) v l.length (l.map (num q)) hs hown ad m c (l2.map (num q)) hx (by simpa using hlen) hb.news (nums_oneCell _ _) (by unfold maxLen; omega) hbb hbase ?_
  intro v' w' ho' hg _
  refine h v' w' ?_ hg
  unfold OwnQ
  rw [List.map_append, List.length_append, hlen]
  exact ho'

/-- Between two pieces; where Mask stops. -/
def MkI (h : Nat) (seed : List Nat) (size bz bM bH : Nat) (w : World) (pre : List (Addr × Nat)) (W : World) : Prop := ∃ v, Boxed W bM 23 v ∧ OwnQ .u8 5 bz W v (maskAll h seed pre.length) ∧ Boxed W bz 3 (.int .i64 (size : Int)) ∧ pre.length * mSize h ≤ size ∧ Below bz w W ∧ (v.ownBlock ≠ some bM ∧ v.ownBlock ≠ some bH ∧ v.ownBlock ≠ some (bH + 1) ∧ v.ownBlock ≠ some bz) ∧ bH + 2 ≤ W.heap.size
def MkX (h : Nat) (seed : List Nat) (size bz bM : Nat) (w : World) (W : World) : Prop := ∃ v, Boxed W bM 23 v ∧ OwnQ .u8 5 bz W v (maskN h seed size) ∧ Below bz w W

set_option maxHeartbeats 4000000 in
theorem mask_yes (h : Nat) (hh : IsHash h) (a : Option Addr) (ls cs : Nat) (seed : List Nat) (size : Nat) (w : World) (hk : Kinds w) (hr : Reads .u8 w a ls cs seed) (hsb : Byt seed) (hls : ls ≤ 1048000) (hs : size ≤ 50000) :
    Calls Tryd.prog 12 #[.int .i64 (h : Int), .slice a ls cs, .int .i64 (size : Int)] w fun e w' => (∃ v, e = .returned (.tuple #[v, .int .i64 0]) ∧ OwnQ .u8 5 w.heap.size w' v (maskN h seed size)) ∧ Below w.heap.size w w' := by
  obtain ⟨i0, hi, hz0, hz1, hz2⟩ := info_parts infoMk
  have HR := Lib.hid hr
  have HSB := Lib.hid hsb
  have HK := Lib.hid hk
  have HH := Lib.hid hh
  have hh4 := isHash_lt hh
  have h0w := hk.lt
  have hab := Lib.hid (show 0 < ls → ∀ x, a = some x → x.block < w.heap.size from fun hp x e => by
    obtain ⟨b, off, e2, hlt, -⟩ := hr.cells hp
    rw [e2] at e
    cases e
    exact hlt)
  have d1 : decide ((size : Int) < 0) = false := by simp
  have d2 : decide ((65536 : Int) < (size : Int)) = false := by simp; omega
  have BZ0 := Lib.hid (Boxed.new w 3 (.int .i64 (size : Int)))
  have HB0 := Lib.hid ((Below.refl w.heap.size w).alloc (Nat.le_refl _) (.cells #[.int .i64 (size : Int)] 3))
  have cZ0 := BZ0.out.cell
  clear hr hsb hk hh
  refine (callsIn_wide (n := 3)).1 ?_
  refine callsIn_of_wp_marks Tryd.func12 rfl trivial ?_ rfl
  simp only [Tryd.ntmps12, List.size_toArray, List.length_cons, List.length_nil, Nat.reduceAdd, Nat.reduceSub, Array.replicate_succ, Array.replicate_zero, List.push_toArray, List.append_toArray, List.nil_append, List.cons_append]
  refine wpIn_wide.2 ?_
  go_wp2_with fail
  refine wp_scope_straight ?_
  go_wp2_with fail
  generalize w.alloc (.cells #[.int .i64 (size : Int)] 3) = w0 at *
  obtain ⟨bz, hbz⟩ : ∃ b, b = w.heap.size := ⟨_, rfl⟩
  rw [← hbz] at BZ0 HB0 h0w hab ⊢
  have HBS := Lib.hid hbz.symm
  clear hbz
  refine (known_yesM h HH.out w0 (HK.out.below (by rw [HBS.out]; exact HB0.out))).mono ?_
  rintro e w1 ⟨rfl, h1⟩
  have BZ1 := Lib.hid (show Boxed w1 bz 3 (.int .i64 (size : Int)) from (h1.block bz BZ0.out.lt).trans BZ0.out)
  have HB1 := Lib.hid (HB0.out.trans (h1.mono (by have := HB0.out.size; rw [HBS.out] at this; exact this)))
  have BZ2 := Lib.hid (BZ1.out.alloc (.cells #[.string (strOf (mName h)), .int .i64 (mSize h : Int), .int .u8 (mMark h : Int)] 54))
  have cZ2 := BZ2.out.cell
  have hz1w : bz ≤ w1.heap.size := by have := HB1.out.size; rw [HBS.out] at this; exact this
  unfold kindV
  clear h1 cZ0
  go_wp2_with (at_make; refine wpList_make_lcM .u8 _ rfl _ _ 23 rfl bz 5 i0 Tryd.underlying23 hi hz0 hz1 _ _ _ _ 0 size rfl rfl rfl rfl (Nat.zero_le _) (by rw [hz2]; omega) (by unfold maxLen; omega) (by simp; omega) ?_; intro w2 hown hgrow; rw [World.size_alloc] at hown; have HO2 := Lib.hid hown; have hgl := (World.ownsRow.lt hown (w1.heap.size + 1) rfl).2; have HB2 := Lib.hid ((HB1.out.alloc hz1w _).grown hgrow (by simp; omega) (fun r e => by cases e)); have BZ3 := Lib.hid (Boxed.kept BZ2.out hgrow (fun e => by cases e)); clear hown hgrow)
  have hbz1 : bz < w1.heap.size := BZ1.out.lt
  have BM3 := Lib.hid (Boxed.new w2 23 (.slice (some ⟨w1.heap.size + 1, 0, none⟩) 0 size))
  have HO3 := Lib.hid (HO2.out.alloc (.cells #[.slice (some ⟨w1.heap.size + 1, 0, none⟩) 0 size] 23))
  have BZ4 := Lib.hid (BZ3.out.alloc (.cells #[.slice (some ⟨w1.heap.size + 1, 0, none⟩) 0 size] 23))
  have HB3 := Lib.hid (HB2.out.alloc (by omega) (.cells #[.slice (some ⟨w1.heap.size + 1, 0, none⟩) 0 size] 23))
  have hz3 : (w2.alloc (.cells #[.slice (some ⟨w1.heap.size + 1, 0, none⟩) 0 size] 23)).heap.size = w2.heap.size + 1 := by simp
  clear cZ2
  generalize w2.alloc (.cells #[.slice (some ⟨w1.heap.size + 1, 0, none⟩) 0 size] 23) = w3 at *
  obtain ⟨gm, hgm⟩ : ∃ g, g = w1.heap.size + 1 := ⟨_, rfl⟩
  obtain ⟨bM, hbM⟩ : ∃ b, b = w2.heap.size := ⟨_, rfl⟩
  rw [← hgm] at BM3 HO3 hgl ⊢
  rw [← hbM] at BM3 hz3 hgl ⊢
  have HZ3 := Lib.hid hz3
  have HGM := Lib.hid hgm
  have HBMq := Lib.hid hbM
  have hz3b : bz ≤ w3.heap.size := by omega
  clear hz3 hgm hbM
  refine (wpIn_wide (n := 3)).1 ?_
  refine wpIn_label ?_
  go_wp2_with fail
  refine (pieces_m w3 h a ls cs).mono ?_
  rintro e w4 ⟨rfl, rfl⟩
  go_wp2_with fail
  refine (wpIn_wide (n := 3)).1 ?_
  have BM5 := (BM3.out.alloc (.cells #[.int .i64 (h : Int)] 28)).alloc (.cells #[.slice a ls cs] 23)
  have BZ5 := (BZ4.out.alloc (.cells #[.int .i64 (h : Int)] 28)).alloc (.cells #[.slice a ls cs] 23)
  have HO5 := (HO3.out.alloc (.cells #[.int .i64 (h : Int)] 28)).alloc (.cells #[.slice a ls cs] 23)
  have HB5 := (HB3.out.alloc hz3b (.cells #[.int .i64 (h : Int)] 28)).alloc (by simp; omega) (.cells #[.slice a ls cs] 23)
  have bH5 := (Boxed.new w3 28 (.int .i64 (h : Int))).alloc (.cells #[.slice a ls cs] 23)
  have bS5 := Boxed.new (w3.alloc (.cells #[.int .i64 (h : Int)] 28)) 23 (.slice a ls cs)
  rw [World.size_alloc] at bS5
  have hz5 : ((w3.alloc (.cells #[.int .i64 (h : Int)] 28)).alloc (.cells #[.slice a ls cs] 23)).heap.size = w3.heap.size + 2 := by simp
  generalize (w3.alloc (.cells #[.int .i64 (h : Int)] 28)).alloc (.cells #[.slice a ls cs] 23) = w5 at *
  obtain ⟨bH, hbH⟩ : ∃ b, b = w3.heap.size := ⟨_, rfl⟩
  have hz3 := HZ3.out
  rw [← hbH] at bH5 bS5 hz5 ⊢
  have hgm := HGM.out
  have hbM := HBMq.out
  have hord : Hid (bz < gm ∧ gm < bM ∧ bM < bH ∧ w5.heap.size = bH + 2) := ⟨by omega, by omega, by omega, by omega⟩
  have hz5b : bz ≤ w5.heap.size := by omega
  have hz5c : bH + 2 ≤ w5.heap.size := by omega
  clear hgm hbM hbH hz3 hz5
  have K5 := Lib.hid (HK.out.below (by rw [HBS.out]; exact HB5))
  have R5 := Lib.hid (HR.out.below (by rw [HBS.out]; exact HB5))
  refine wpIn_rangeM (F := Fence.wide) (R := fun k => k < bz ∨ k = bH ∨ k = bH + 1) rfl (show 1 ≤ 3 by decide) (gf := 44) (lb := #[.pointer (some ⟨bH, 0, none⟩), .pointer (some ⟨bH + 1, 0, none⟩)]) rfl trivial (enters_of Tryd.func44 (by kernel_rfl) rfl)
    (pieces_come_m (3 - 1) (by decide) h HH.out a ls cs seed (size + 1) bz bH (bH + 1) (by omega) w5 K5.out h0w R5.out HSB.out hls hab.out bH5 bS5 hz5b) (fun k hk => by have := hord.out; rcases hk with hk | rfl | rfl <;> omega) (Below.refl _ _) (fun _ => rfl)
    (fun pre W => MkI h seed size bz bM bH w pre W)
    (fun cc pre W => cc = .exit 0 ∧ MkX h seed size bz bM w W)
    ?_ ?_ ?_ ?_ ⟨_, BM5, HO5, BZ5, by simp, HB5, ⟨by simp [Value.ownBlock]; have := hord.out; omega, by simp [Value.ownBlock]; have := hord.out; omega, by simp [Value.ownBlock]; have := hord.out; omega, by simp [Value.ownBlock]; have := hord.out; omega⟩, hz5c⟩ ?_ ?_ ?_ ?_
  rotate_left 5
  · intro lp x W K hK
    gi_wp2
    exact hK
  · rintro lp pre x W ⟨v, hbM', hown, hbZ, hle, hB, ⟨n1, n2, n3, n4⟩, hsz⟩ hG
    obtain ⟨va, vn, vc, rfl, hvn, hown⟩ := own_slM hown
    rw [maskAll_len HH.out] at hvn
    have HVN := Lib.hid (show vn = (maskAll h seed pre.length).length by rw [maskAll_len HH.out]; exact hvn)
    have HVK := Lib.hid hvn
    have cM := hbM'.cell
    have fM := hbM'.frozen
    have cZ := hbZ.cell
    have HBM := Lib.hid hbM'
    have HBZ := Lib.hid hbZ
    have HOW := Lib.hid hown
    have HBW := Lib.hid hB
    have HNE := Lib.hid (show (Value.slice va vn vc).ownBlock ≠ some bM ∧ (Value.slice va vn vc).ownBlock ≠ some bH ∧ (Value.slice va vn vc).ownBlock ≠ some (bH + 1) ∧ (Value.slice va vn vc).ownBlock ≠ some bz from ⟨n1, n2, n3, n4⟩)
    have HG := Lib.hid hG
    have hbW : bz ≤ W.heap.size := by have := hord.out; omega
    have hszb := mSize_le HH.out
    obtain ⟨sz, hsze⟩ : ∃ s, s = mSize h := ⟨_, rfl⟩
    rw [← hsze] at hszb hle hvn ⊢
    have HSZ := Lib.hid hsze
    have HLE := Lib.hid hle
    have hvs : vn ≤ size := by omega
    obtain ⟨L, hL⟩ : ∃ L, L = size - vn := ⟨_, rfl⟩
    have hLi : (size : Int) - (vn : Int) = (L : Int) := by omega
    have HL := Lib.hid hL
    have hLs : L ≤ size := by omega
    clear hbM' hown hbZ hle hB n1 n2 n3 n4 hG hvn hL hsze
    have HPC := Lib.hid (mHash_len HH.out (seed ++ be4 pre.length))
    by_cases hc : sz < L
    · have t1 : decide ((sz : Int) < (L : Int)) = true := by simp; omega
      have HC := Lib.hid hc
      clear hc
      gi_wp2_with (gi_at_builtin; go_loud (refine wpListIn_append_own_at _ rfl _ _ 23 rfl bz 5 i0 (.int .u8 0) 1 1 Tryd.underlying23 hi hz0 hz1 hz2 rfl (by decide) (.slice va vn vc) vn ((maskAll h seed pre.length).map (num .u8)) rfl (by have h1 := HOW.out; unfold OwnQ at h1; rwa [← HVN.out] at h1) x.1 sz x.2 ((pieceN h seed pre.length).map (num .u8)) rfl (by rw [List.length_map, show (pieceN h seed pre.length).length = mSize h from HPC.out, ← HSZ.out, Nat.mul_one]) (by have h1 := HG.out; unfold GdP at h1; rw [← HSZ.out] at h1; exact h1.news) (nums_oneCell _ _) (by unfold maxLen; omega) (by omega) hbW ?_); intro v' w' ho' hgrow _ hblk; obtain ⟨a', n', c', rfl, -, ho2⟩ := own_slM (q := .u8) (E := 5) (B := bz) (w := w') (v := v') (l := maskAll h seed pre.length ++ pieceN h seed pre.length) (by unfold OwnQ; rw [List.map_append, List.length_append, ← HVN.out, show (pieceN h seed pre.length).length = mSize h from HPC.out, ← HSZ.out]; exact ho'); have HO2 := Lib.hid ho2; have HA := Lib.hid (appendedM HOW.out hbW hgrow); have HBM' := Lib.hid (HA.out.2.2 bM _ _ HBM.out HNE.out.1); have cM' := (HA.out.2.2 _ _ _ HBM.out HNE.out.1).cell; have fM' := (HA.out.2.2 _ _ _ HBM.out HNE.out.1).frozen; have HGR := Lib.hid hgrow; have HBL := Lib.hid hblk; clear ho' hgrow hblk ho2)
      have hne' := own_ne_box HO2.out HBM'.out (by decide)
      have hKO : KeepsOthers W (w'.setCell ⟨bM, 0, none⟩ (.slice a' n' c')) := HA.out.1.trans (KeepsOthers.setCell _ _ _)
      have hbm := hord.out
      have hnew : ∀ b, b < W.heap.size → (Value.slice va vn vc).ownBlock ≠ some b → (Value.slice a' n' c').ownBlock ≠ some b := fun b hb h1 e => by
        rcases HBL.out with h2 | h2
        · rw [h2] at e; exact h1 e
        · rw [h2] at e; have := Option.some.inj e; omega
      refine ⟨hKO.from _, ⟨hKO.size, fun k hk => ?_⟩, ⟨_, HBM'.out.set _, ?_, ?_, ?_, ?_, ⟨hne', hnew bH (by omega) HNE.out.2.1, hnew (bH + 1) (by omega) HNE.out.2.2.1, hnew bz (by omega) HNE.out.2.2.2⟩, Nat.le_trans hsz hKO.size⟩⟩
      · have hkW : k < W.heap.size := by rcases hk with hk | rfl | rfl <;> omega
        have hkM : k ≠ bM := by rcases hk with hk | rfl | rfl <;> omega
        have hko : (Value.slice va vn vc).ownBlock ≠ some k := by
          rcases hk with hk | rfl | rfl
          · intro e
            have := (ownBase HOW.out e).1
            omega
          · exact HNE.out.2.1
          · exact HNE.out.2.2.1
        exact (Below.heap_setCell w' ⟨bM, 0, none⟩ _ k hkM).trans (HGR.out.block k hkW (fun e => hko e.symm))
      · rw [List.length_append]
        exact own_sets (i := 0) (u := .slice a' n' c') HO2.out hne'
      · exact (HA.out.2.2 bz _ _ HBZ.out HNE.out.2.2.2).other' (g := bM) (i := 0) (by omega) _
      · have e1 := HVK.out
        have e2 := HL.out
        have e3 := HC.out
        rw [← HSZ.out] at e1 ⊢
        rw [List.length_append, List.length_singleton, Nat.succ_mul]
        omega
      · exact (HA.out.2.1 w HBW.out).setCell (p := ⟨bM, 0, none⟩) (by show bz ≤ bM; omega) _
    · have t1 : decide ((sz : Int) < (L : Int)) = false := by simp; omega
      have HC := Lib.hid hc
      have hLz : L ≤ sz := by omega
      clear hc
      have hs1 : ∀ w, (sizeOf (Tryd.prog.elem 23)).run Tryd.prog w = .ok 1 w := fun _ => by kernel_rfl
      have hxc : sz ≤ x.2 := by have h1 := HG.out.le; rw [← HSZ.out] at h1; exact h1
      have sl : ∀ W, (Instr.sliceAt 23 (.slice (some x.1) sz x.2) none (some (.int .i64 (L : Int))) none).run Tryd.prog W = .ok (.slice (some x.1) L x.2) W := fun W => by
        rw [run_sliceAt_slice W _ _ _ _ _ (by kernel_rfl), run_slice_h W _ (some x.1) sz x.2 (by kernel_rfl) .i64 (L : Int) (by omega) (by omega), hs1]
        simp [sliced, Result.andThen, Addr.add]
      have HGL := Lib.hid (show Reads .u8 W (some x.1) L x.2 ((pieceN h seed pre.length).take L) by have h1 := HG.out; unfold GdP at h1; rw [← HSZ.out] at h1; exact h1.upto L hLz)
      clear hs1
      gi_wp2_with fail
      refine wpIn_region_held_drew (S := fun _ => True) (by kernel_rfl) (plain_of (by kernel_rfl)) ?_ trivial (fun hHeld => ?_)
      · rintro ⟨a, w, h⟩
        exact h
      refine' wpAnyH_take (i := 1) (oi := _) (v := _) rfl (by kernel_rfl) (by kernel_rfl) (by kernel_rfl) (fun _ _ _ h => h) (Or.inl ⟨?_, ?_⟩) (by assumption) ?_
      rotate_left
      all_goals (try simp only [List.getElem_toArray, List.getElem_cons_succ, List.getElem_cons_zero])
      · rfl
      · intro W hSw; (try dsimp only at hSw); go_simp; (try with_reducible rfl)
      try simp only [Act.put, List.setIfInBounds_toArray, List.set_cons_zero, List.set_cons_succ]
      refine' wpAnyH_take (i := 2) (oi := _) (v := _) rfl (by kernel_rfl) (by kernel_rfl) (by kernel_rfl) (fun _ _ _ h => h) (Or.inl ⟨?_, ?_⟩) (by assumption) ?_
      rotate_left
      all_goals (try simp only [List.getElem_toArray, List.getElem_cons_succ, List.getElem_cons_zero])
      · rfl
      · intro W hSw; (try dsimp only at hSw); go_simp; (try with_reducible rfl)
      try simp only [Act.put, List.setIfInBounds_toArray, List.set_cons_zero, List.set_cons_succ]
      refine' wpAnyH_take (i := 3) (oi := _) (v := .slice (some x.1) L x.2) rfl (by kernel_rfl) (by kernel_rfl) (by kernel_rfl) (fun _ _ _ h => h) (Or.inl ⟨?_, ?_⟩) (by assumption) ?_
      all_goals (try simp only [List.getElem_toArray, List.getElem_cons_succ, List.getElem_cons_zero])
      · rfl
      · intro W hSw; (try dsimp only at hSw); go_simp; (first | done | exact sl W)
      try simp only [Act.put, List.setIfInBounds_toArray, List.set_cons_zero, List.set_cons_succ]
      refine wpAnyH_ready (rs := [0]) (by kernel_rfl) (by simp) ?_
      refine AllReadyH.cons (o := _) rfl (fun K hK => ?_) AllReadyH.nil
      try simp only [List.getElem_toArray, List.getElem_cons_succ, List.getElem_cons_zero]
      go_simp
      refine hK.out _ _ trivial (fun hHeld => ?_)
      clear hK K
      try simp only [Act.put, List.setIfInBounds_toArray, List.set_cons_zero, List.set_cons_succ]
      refine wpAnyH_ready (rs := [4]) (by kernel_rfl) (by simp) ?_
      refine AllReadyH.cons (o := _) rfl (fun K hK => ?_) AllReadyH.nil
      try simp only [List.getElem_toArray, List.getElem_cons_succ, List.getElem_cons_zero]
      rw [if_pos (by rfl)]
      refine step_append_M .u8 _ (.tmp 36) (.tmp 39) 23 rfl bz 5 1 i0 Tryd.underlying23 hi hz0 hz1 hz2 (by decide) _ (maskAll h seed pre.length) rfl HOW.out.drew x.1 L x.2 ((pieceN h seed pre.length).take L) rfl (HGL.out.below (Below.refl _ _).drew) (by rw [← HVN.out]; omega) hbW ?_
      intro v' w' ho' hgrow
      obtain ⟨a', n', c', rfl, -, ho'⟩ := own_slM ho'
      have HA := Lib.hid (appendedM HOW.out.drew hbW hgrow)
      have HBM' := Lib.hid (HA.out.2.2 bM _ _ HBM.out HNE.out.1)
      have cM' := HBM'.out.cell
      have fM' := HBM'.out.frozen
      have HO' := Lib.hid ho'
      clear ho' hgrow
      refine hK.out _ _ trivial (fun hHeld => ?_)
      clear hK K
      try simp only [Act.put, List.setIfInBounds_toArray, List.set_cons_zero, List.set_cons_succ]
      refine wpAnyH_ready (rs := [5]) (by kernel_rfl) (by simp) ?_
      refine AllReadyH.cons (o := _) rfl (fun K hK => ?_) AllReadyH.nil
      try simp only [List.getElem_toArray, List.getElem_cons_succ, List.getElem_cons_zero]
      go_simp
      refine hK.out _ _ trivial (fun hHeld => ?_)
      clear hK K
      try simp only [Act.put, List.setIfInBounds_toArray, List.set_cons_zero, List.set_cons_succ]
      refine wpAnyH_done (by kernel_rfl) ?_ _
      simp only [Exit.then]
      gi_wp2_with fail
      have hne' := own_ne_box HO'.out HBM'.out (by decide)
      have hKO : KeepsOthers W (w'.setCell ⟨bM, 0, none⟩ (.slice a' n' c')) := (KeepsOthers.drew W).trans (HA.out.1.trans (KeepsOthers.setCell _ _ _))
      refine ⟨hKO.from _, rfl, _, HBM'.out.set _, ?_, ?_⟩
      · have h1 := own_sets (i := 0) (u := .slice a' n' c') HO'.out hne'
        have h2 := mask_fill HH.out seed (k := pre.length) (s := size) (by rw [← HSZ.out]; exact HLE.out) (by have e1 := HVK.out; have e2 := HL.out; rw [← HSZ.out] at e1 ⊢; omega)
        rw [← h2, ← HVK.out, ← HL.out]
        exact h1
      · exact (HA.out.2.1 w (HBW.out.drew)).setCell (p := ⟨bM, 0, none⟩) (by have := hord.out; show bz ≤ bM; omega) _
  · rintro D cc pre W hD ⟨rfl, v, hbM', hown, hB⟩ hK
    obtain ⟨va, vn, vc, rfl, -, hown⟩ := own_slM hown
    have cM := hbM'.cell
    have HO := Lib.hid hown
    have HBW := Lib.hid hB
    have HDb := Lib.hid (show bz ≤ D by omega)
    clear hown hB
    gi_wp2_with fail
    go_wp2
    rw [Exit.noGoto_ret]
    refine ⟨by simp, .inl ⟨_, _, rfl, run_takeDeferred hK, ?_⟩⟩
    have hgr := grownBy_putObj' W D (.deferred none)
    refine ⟨_, results_tmp2 rfl _ _ _, ⟨_, rfl, ?_⟩, ?_⟩
    · rw [HBS.out]
      exact HO.out.keptW hgr (fun r e => by cases e; exact ⟨_, hK, rfl⟩)
    · rw [HBS.out]
      exact HBW.out.grown hgr (Nat.le_trans HDb.out (Nat.le_of_lt (Array.getElem?_eq_some_iff.1 hK).1)) (fun r e => by cases e; exact HDb.out)
  · rintro pre W W' row ⟨v, h1, h2, h3, h4, h5, h6, h7⟩ hg hr
    have hne : ∀ b, b < w5.heap.size → some b ≠ row := fun b hb e => by have := (hr b e.symm).1; omega
    have hbm := hord.out
    exact ⟨v, h1.kept hg (hne bM (by omega)), h2.keptW hg (fun r e => (hr r e).2), h3.kept hg (hne bz (by omega)), h4, h5.grown hg (by omega) (fun r e => by have := (hr r e).1; omega), h6, Nat.le_trans h7 hg.size⟩
  · rintro cc pre W W' row ⟨h0, v, h1, h2, h3⟩ hg hr
    have hne : ∀ b, b < w5.heap.size → some b ≠ row := fun b hb e => by have := (hr b e.symm).1; omega
    have hbm := hord.out
    exact ⟨h0, v, h1.kept hg (hne bM (by omega)), h2.keptW hg (fun r e => (hr r e).2), h3.grown hg (by have := h1.lt; omega) (fun r e => by have := (hr r e).1; omega)⟩
  · rintro s W W' row h1 hg hr
    exact Reads.keptW h1 hg (fun r e => (hr r e).2)
  · rintro pre W ⟨v, h1, h2, h3, h4, h5, h6, h7⟩
    have := (mSize_le HH.out).1
    have h8 : pre.length * 1 ≤ pre.length * mSize h := Nat.mul_le_mul_left _ (by omega)
    omega

end Go.Proofs.YtmfjhgjplmpecaaDoor
