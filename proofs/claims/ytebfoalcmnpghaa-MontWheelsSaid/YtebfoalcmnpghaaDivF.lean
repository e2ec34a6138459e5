/-
  RATIO's Div.
-/
import Derived.Test.YtebfoalcmnpghaaDivE
import Derived.Test.YtebfoalcmnpghaaDivQ
import Derived.Test.YtebfoalcmnpghaaNatH
namespace Go.Proofs.Ytebfoalcmnpghaa
open Go.RowKit

/-- Quotient and rest, or the error. -/
def divR (x y : Nat) : List Nat × List Nat × Int := if x < topN ∧ y < topN then (if y = 0 then ([], [], 60) else (nat32 (x / y), nat32 (x % y), 0)) else ([], [], 20)
theorem divR_no {x y : Nat} (h : ¬ (x < topN ∧ y < topN)) : divR x y = ([], [], 20) := if_neg h
theorem divR_zero {x : Nat} (h : x < topN) : divR x 0 = ([], [], 60) := by unfold divR; rw [if_pos ⟨h, topN_pos⟩, if_pos rfl]
theorem divR_yes {x y : Nat} (h : x < topN) (k : y < topN) (h0 : 0 < y) : divR x y = (nat32 (x / y), nat32 (x % y), 0) := by unfold divR; rw [if_pos ⟨h, k⟩, if_neg (by omega)]

/-- Two values lie in memory of their own each. -/
def Off (v u : Value) : Prop := ∀ g, v.ownBlock = some g → u.ownBlock ≠ some g
def DivRets (B : Nat) (w' : World) (r : List Nat × List Nat × Int) (e : Ending) : Prop := ∃ q s : Value, e = .returned (.tuple #[q, s, .int .i64 r.2.2]) ∧ OwnQ .u32 41 B w' q r.1 ∧ OwnQ .u32 41 B w' s r.2.1 ∧ Off q s

theorem OwnQ.ownBlock {q : IntKind} {E B n c : Nat} {w : World} {a : Option Addr} {l : List Nat} (h : OwnQ q E B w (.slice a n c) l) (hl : 0 < n) : ∃ g, a = some ⟨g, 0, none⟩ ∧ B ≤ g ∧ g < w.heap.size := by
  rcases h.2 with ⟨h1, h0⟩ | ⟨g, cap, cur, he, hB, hgb, _⟩
  · cases h1; omega
  · cases he
    exact ⟨g, rfl, hB, (Array.getElem?_eq_some_iff.1 hgb).1⟩

theorem trim_ok {x : Value} {n : Nat} {w : World} (hx : NatAt w x n) (h : n < topN) : Calls Try.prog 35 #[x] w fun e w' => (∃ v, e = .returned (.tuple #[v, .int .i64 0]) ∧ OwnQ .u32 41 w.heap.size w' v (nat32 n)) ∧ Below w.heap.size w w' := by
  obtain ⟨a, len, cap, l, rfl, hr, hl, rfl⟩ := hx
  refine (trim_any _ _ _ _ w hr hl).mono fun e w' ⟨he, hb⟩ => ⟨?_, hb⟩
  rw [cutR_small h] at he
  exact he
theorem trim_no {x : Value} {n : Nat} {w : World} (hx : NatAt w x n) (h : ¬ n < topN) : Calls Try.prog 35 #[x] w fun e w' => (∃ v, e = .returned (.tuple #[v, .int .i64 20])) ∧ Below w.heap.size w w' := by
  obtain ⟨a, len, cap, l, rfl, hr, hl, rfl⟩ := hx
  refine (trim_any _ _ _ _ w hr hl).mono fun e w' ⟨he, hb⟩ => ⟨?_, hb⟩
  rw [cutR_large h] at he
  obtain ⟨v, rfl, _⟩ := he
  exact ⟨v, rfl⟩

theorem off_nil (v : Value) : Off v (.slice none 0 0) := fun g _ h => by cases h
theorem off_nil' (v : Value) : Off (.slice none 0 0) v := fun g h => by cases h

theorem natAt_own {q B : Nat} {w : World} {v : Value} {n : Nat} (h : OwnQ .u32 q B w v (nat32 n)) : NatAt w v n := (NatC.of h).at

/-- A division that may begin. -/
structure DivStart (n₀ D g1 g2 g3 p c1 c2 m k : Nat) (L V : List Nat) (w : World) : Prop where
  held : HeldW w D #[.slice (some ⟨g1, 0, none⟩) (p + 1) c1, .slice (some ⟨g2, 0, none⟩) (k + 1) c2, .slice (some ⟨g3, 0, none⟩) m m] 93
  left : OwnQ .u32 41 n₀ w (.slice (some ⟨g1, 0, none⟩) (p + 1) c1) L
  by' : OwnQ .u32 41 n₀ w (.slice (some ⟨g2, 0, none⟩) (k + 1) c2) V
  quot : OwnQ .u32 41 n₀ w (.slice (some ⟨g3, 0, none⟩) m m) (List.replicate m 0)
  apart : D ≠ g1 ∧ D ≠ g3 ∧ g2 ≠ g1 ∧ g2 ≠ g3 ∧ g3 ≠ g1

theorem made_own (w : World) (m : Nat) (hm : m ≤ 1000) : OwnQ .u32 41 w.heap.size (w.alloc (.cells (madeCells (Value.int .u32 0).cells (m * 1)) 41)) (.slice (some ⟨w.heap.size, 0, none⟩) m m) (List.replicate m 0) :=
  OwnQ.made (World.ownsRow_lit w _ m (Nat.le_refl _) (by unfold maxLen; omega) (size_madeCells _ _)) rfl

theorem off_of {B B' B2 B3 : Nat} {w1 w2 : World} {q s : Value} {l l' : List Nat} (hq : OwnQ .u32 B B2 w1 q l) (hs : OwnQ .u32 B' B3 w2 s l') (h : w1.heap.size ≤ B3) : Off q s := fun g h1 h2 => by
  have a1 := (World.ownsRow.lt hq g h1).2
  have a2 := (World.ownsRow.lt hs g h2).1
  omega
theorem natAt_list {E B : Nat} {w : World} {a : Option Addr} {len cap n : Nat} {l : List Nat} (h : OwnQ .u32 E B w (.slice a len cap) l) (hl : Lim l) (hv : val32 l = n) : NatAt w (.slice a len cap) n := ⟨a, len, cap, l, rfl, h.reads, hl, hv⟩

theorem start_of {n₀ gX gY gM p cX cY m k : Nat} {L V : List Nat} {w0 : World} (W : World) (hb : Below n₀ w0 W) (hn : n₀ ≤ w0.heap.size) (hX : OwnQ .u32 41 n₀ W (.slice (some ⟨gX, 0, none⟩) (p + 1) cX) L) (hY : OwnQ .u32 41 n₀ W (.slice (some ⟨gY, 0, none⟩) (k + 1 + 1) cY) V) (hQ : OwnQ .u32 41 n₀ W (.slice (some ⟨gM, 0, none⟩) m m) (List.replicate m 0))
    (h : gY ≠ gX ∧ gY ≠ gM ∧ gM ≠ gX) : ∃ D g Wf, D = W.heap.size ∧ g = gM ∧ Wf = W.alloc (.cells #[.slice (some ⟨gX, 0, none⟩) (p + 1) cX, .slice (some ⟨gY, 0, none⟩) (k + 1) cY, .slice (some ⟨gM, 0, none⟩) m m] 93) ∧ DivStart n₀ D gX gY g p cX cY m k L (V.take (k + 1)) Wf ∧ Below n₀ w0 Wf := by
  have l1 := (World.ownsRow.lt hX gX rfl).2
  have l2 := (World.ownsRow.lt hY gY rfl).2
  have l3 := (World.ownsRow.lt hQ gM rfl).2
  exact ⟨_, _, _, rfl, rfl, rfl, ⟨World.alloc_heap_new W _, hX.alloc _, (hY.upto (k + 1) (by omega)).alloc _, hQ.alloc _, by omega, by omega, h.1, h.2.1, h.2.2⟩, hb.alloc (Nat.le_trans hn hb.size) _⟩

theorem shifted_own (a : Option Addr) (len cap : Nat) (l : List Nat) (w w0 : World) (h : Reads .u32 w a len cap l) (hb : Below w.heap.size w w0) (hL : Lim l) (r : Nat) (hr32 : r < 32) (hlen : len ≤ 256) :
    Calls Try.prog 76 #[.slice a len cap, .int .i64 (r : Int)] w0 fun e w' => ∃ (O : List Nat) (g c : Nat), e = .returned (.slice (some ⟨g, 0, none⟩) (len + 1) c) ∧ len + 1 ≤ c ∧ Hid (OwnQ .u32 41 w0.heap.size w' (.slice (some ⟨g, 0, none⟩) (len + 1) c) O ∧ O.length = len + 1 ∧ Lim O ∧ val32 O = val32 l * 2 ^ r ∧ w0.heap.size ≤ g ∧ g < w'.heap.size) ∧ Hid (Below w0.heap.size w0 w') := by
  refine (shifted_any a len cap l w0 (h.below hb) hL r hr32 hlen).mono fun e w' ⟨⟨O, ⟨v, he, ho⟩, h1, h2, h3⟩, hbb⟩ => ?_
  obtain ⟨a', n', c', rfl, hn, ho⟩ := ho.slice
  obtain rfl : n' = len + 1 := by rw [hn, h1]
  obtain ⟨g, rfl, hg1, hg2⟩ := ho.ownBlock (by omega)
  exact ⟨O, g, c', he, ho.cap.2.1, ⟨ho, h1, h2, h3, hg1, hg2⟩, hbb⟩

set_option maxRecDepth 100000 in
set_option maxHeartbeats 2000000 in
theorem div_main (x y : Value) (X Y : Nat) (w : World) (hx : NatAt w x X) (hy : NatAt w y Y) (hX : X < topN) (hY : Y < topN) (h0 : 0 < Y) (hle : Y ≤ X) :
    Calls Try.prog 59 #[x, y] w fun e w' => DivRets w.heap.size w' (nat32 (X / Y), nat32 (X % Y), 0) e ∧ Below w.heap.size w w' := by
  have NX := Lib.hid hx
  have NY := Lib.hid hy
  have HX := Lib.hid hX
  have HY := Lib.hid hY
  have HLE := Lib.hid hle
  have H0 := Lib.hid h0
  have hkk : ∃ k, (nat32 Y).length = k + 1 := ⟨(nat32 Y).length - 1, by
    have : (nat32 Y).length ≠ 0 := fun e => by
      have := (natB_nil (b := 4294967296) (by decide)).1 (List.eq_nil_of_length_eq_zero e)
      omega
    omega⟩
  obtain ⟨k, hk⟩ := hkk
  have hp := limbs_le rfl hk hle
  have hp2 := (natB_length (b := 4294967296) (by decide) X 256).2 hX
  have hk2 := (natB_length (b := 4294967296) (by decide) Y 256).2 hY
  have htl := Lib.hid (top_limb hk)
  rw [show natB 4294967296 X = nat32 X from rfl] at hp2
  rw [show natB 4294967296 Y = nat32 Y from rfl, hk] at hk2
  generalize hpp : (nat32 X).length = p at *
  have HP := Lib.hid hpp
  have HK := Lib.hid hk
  clear hx hy hX hY h0 hle hk hpp
  go_enter Try.func59, Try.ntmps59
  go_wp2_with fail
  refine (trim_ok NX.out HX.out).mono ?_
  rintro e w1 ⟨⟨v1, rfl, ho1⟩, hb1⟩
  obtain ⟨a1, n1, c1, rfl, hn1, ho1⟩ := ho1.slice
  obtain rfl : p = n1 := by rw [hn1]; exact HP.out.symm
  have O1 := Lib.hid ho1
  have B1 := Lib.hid hb1
  have NY1 := Lib.hid (NY.out.below hb1)
  clear ho1 hb1 hn1
  go_wp2_with fail
  refine (trim_ok NY1.out HY.out).mono ?_
  rintro e w2 ⟨⟨v2, rfl, ho2⟩, hb2⟩
  obtain ⟨a2, n2, c2, rfl, hn2, ho2⟩ := ho2.slice
  obtain rfl : n2 = k + 1 := by rw [hn2]; exact HK.out
  have O2 := Lib.hid ho2
  have O1' := Lib.hid (O1.out.below hb2)
  have B2 := Lib.hid (B1.out.trans (hb2.mono B1.out.size))
  clear ho2 hb2 hn2 NY1 O1 B1
  have hord : ¬ ordN X Y < 0 := by
    have := HLE.out
    unfold ordN
    rw [if_neg (by omega)]
    split <;> omega
  have hcmp := Lib.hid (cmp_nat (natAt_own O1'.out) (natAt_own O2.out) _ rfl)
  generalize ordN X Y = o at *
  go_wp2_with fail
  refine hcmp.out.mono ?_
  rintro e w3 ⟨rfl, hb3⟩
  have B3 := Lib.hid (B2.out.trans (hb3.mono B2.out.size))
  have R1 := Lib.hid (O1'.out.reads.below hb3)
  have R2 := Lib.hid (O2.out.reads.below hb3)
  clear hb3 hcmp O1' O2 B2
  obtain ⟨b, off, rfl, hbk, hc⟩ := R2.out.cells (by omega)
  have hck := hc k (by omega)
  have hyt := htl.out.2.2.2.1
  have hy0 := htl.out.2.2.1
  clear hc hbk
  obtain ⟨yt, hyt'⟩ : ∃ yt, yt = (nat32 Y)[k]?.getD 0 := ⟨_, rfl⟩
  rw [← hyt'] at hck hyt hy0
  have HYT := Lib.hid hyt'
  clear hyt'
  have hlb := lead_bound hy0 hyt
  obtain ⟨n, hn⟩ : ∃ n, n + bitsN yt = 32 := ⟨32 - bitsN yt, by omega⟩
  have hn32 : n < 32 := by omega
  have HN := Lib.hid hn
  have hz := Lib.hid (fun W => zeros32_any yt W hyt n hn)
  clear hlb hn hy0
  obtain ⟨i0, hi, hz0, hz1, hz2⟩ := info_parts Try.info32
  obtain ⟨m, hm⟩ : ∃ m, m + (k + 1) = p + 1 := ⟨p - k, by omega⟩
  obtain ⟨m1, hm1⟩ : ∃ m1, m = m1 + 1 := ⟨m - 1, by omega⟩
  have em1 : IntKind.i64.wrap ((p : Int) - ((k : Int) + 1)) = (m1 : Int) := by rw [IntKind.wrap_i64]; omega
  have em2 : IntKind.i64.wrap ((m1 : Int) + 1) = (m : Int) := by rw [IntKind.wrap_i64]; omega
  have HM1 := Lib.hid hm1
  have hm2 : m ≤ 1000 := by omega
  have HM := Lib.hid hm
  have hmk : ∀ W : World, (Instr.makeSlice 22 (.int .i64 (m : Int)) (.int .i64 (m : Int))).run Try.prog W = .ok (.slice (some ⟨W.heap.size, 0, none⟩) m m) (W.alloc (.cells (madeCells (Value.int .u32 0).cells (m * 1)) 41)) := fun W => by
    have := run_make (P := Try.prog) W 22 41 i0 (.int .u32 0) Try.underlying22 hi hz0 .i64 .i64 m m (by omega) (by omega) (by rw [hz2]; omega) (by omega)
    simpa [hz1] using this
  go_wp2_with (go_at_call 75; refine (hz.out _).mono ?_; rintro e w' ⟨rfl, rfl⟩)
  have SX := Lib.hid (fun W hW => shifted_own a1 p c1 _ w3 W R1.out hW (lim_nat X) n hn32 hp2)
  have SY := Lib.hid (fun W hW => shifted_own (some ⟨b, off, none⟩) (k + 1) c2 _ w3 W R2.out hW (lim_nat Y) n hn32 hk2)
  have HB := Lib.hid ((Below.refl w3.heap.size w3).drew)
  clear hck hz hm2 hm hm1 hi hz0 hz1 hz2
  generalize hZ : madeCells (Value.int .u32 0).cells (m * 1) = Zc at hmk
  have HZ := Lib.hid hZ
  clear hZ
  go_region_with (first | ((with_reducible refine (SX.out _ (by first | exact HB.out | exact ((Below.refl w3.heap.size w3).alloc (Nat.le_refl _) _).drew)).mono ?_); rintro e w4 ⟨OX, gX, cX, rfl, hcX, HOX, HBX⟩) | ((with_reducible refine (SY.out _ (by first | exact HB.out.trans (HBX.out.mono HB.out.size) | exact (((Below.refl w3.heap.size w3).alloc (Nat.le_refl _) _).drew).trans (HBX.out.mono (by simp)) | exact (HB.out.trans (HBX.out.mono HB.out.size)).alloc (Nat.le_trans HB.out.size HBX.out.size) _)).mono ?_); rintro e w5 ⟨OY, gY, cY, rfl, hcY, HOY, HBY⟩))
  all_goals clear SX SY
  all_goals obtain ⟨x1, x2, x3, x4, x5, x6⟩ := HOX.out
  all_goals obtain ⟨y1, y2, y3, y4, y5, y6⟩ := HOY.out
  all_goals have hsx := HBX.out.size
  all_goals have hsy := HBY.out.size
  all_goals have hs3 := B3.out.size
  all_goals (try simp only [World.size_alloc] at hsx hsy x5 y5)
  all_goals have hZ := HZ.out
  all_goals subst hZ
  all_goals have hmm : m ≤ 1000 := by have := HM.out; omega
  all_goals first
    | have HS := Lib.hid (start_of (n₀ := w.heap.size) (w0 := w) (w5.alloc (.cells (madeCells (Value.int .u32 0).cells (m * 1)) 41)) ((((B3.out.drew).trans (HBX.out.mono hs3)).trans (HBY.out.mono (Nat.le_trans hs3 hsx))).alloc (Nat.le_trans (Nat.le_trans hs3 hsx) hsy) _) (Nat.le_refl _) (((x1.mono (B' := w.heap.size) (Nat.le_trans hs3 (Nat.le_refl _))).below HBY.out).alloc _) ((y1.mono (B' := w.heap.size) (Nat.le_trans hs3 hsx)).alloc _) (((made_own w5 m hmm).mono (Nat.le_trans (Nat.le_trans hs3 hsx) hsy)) : OwnQ .u32 41 w.heap.size _ (.slice (some ⟨w5.heap.size, 0, none⟩) m m) _) ⟨by omega, by omega, by omega⟩)
    | have HS := Lib.hid (start_of (n₀ := w.heap.size) (w0 := w) w5 ((((B3.out.drew).trans (HBX.out.mono hs3)).alloc (Nat.le_trans hs3 hsx) _).trans (HBY.out.mono (by simp only [World.size_alloc]; exact Nat.le_trans (Nat.le_trans hs3 hsx) (Nat.le_succ _)))) (Nat.le_refl _) (((x1.mono (B' := w.heap.size) (Nat.le_trans hs3 (Nat.le_refl _))).alloc (.cells (madeCells (Value.int .u32 0).cells (m * 1)) 41)).below HBY.out) (y1.mono (B' := w.heap.size) (by simp only [World.size_alloc]; exact Nat.le_trans (Nat.le_trans hs3 hsx) (Nat.le_succ _))) ((((made_own w4 m hmm).mono (Nat.le_trans hs3 hsx)).below HBY.out) : OwnQ .u32 41 w.heap.size _ (.slice (some ⟨w4.heap.size, 0, none⟩) m m) _) ⟨by omega, by omega, by omega⟩)
    | (have e1 : (w3.alloc (.cells (madeCells (Value.int .u32 0).cells (m * 1)) 41)).drew.heap.size = w3.heap.size + 1 := by
        show (w3.alloc _).heap.size = _
        simp
       rw [e1] at hsx x5
       have HS := Lib.hid (start_of (n₀ := w.heap.size) (w0 := w) w5 (((B3.out.alloc hs3 _).drew.trans (HBX.out.mono (by rw [e1]; exact Nat.le_trans hs3 (Nat.le_succ _)))).trans (HBY.out.mono (Nat.le_trans (Nat.le_trans hs3 (Nat.le_succ _)) hsx))) (Nat.le_refl _) ((x1.mono (B' := w.heap.size) (by rw [e1]; exact Nat.le_trans hs3 (Nat.le_succ _))).below HBY.out) (y1.mono (B' := w.heap.size) (Nat.le_trans (Nat.le_trans hs3 (Nat.le_succ _)) hsx)) (((((made_own w3 m hmm).mono hs3).drew.below HBX.out).below HBY.out) : OwnQ .u32 41 w.heap.size _ (.slice (some ⟨w3.heap.size, 0, none⟩) m m) _) ⟨by omega, by omega, by omega⟩))
  all_goals clear x1 x5 x6 y1 y5 y6 HOX HOY HBX HBY hsx hsy hs3 HZ
  all_goals obtain ⟨D, gM, Wf, eD, eM, eW, hDS, hBW⟩ := HS.out
  all_goals (try simp only [World.size_alloc] at eD)
  all_goals clear HS hmk em1 em2
  all_goals rw [← eW]
  all_goals rw [← eD]
  all_goals try rw [← eM]
  all_goals
    clear eD eM eW
    rw [val_nat] at x4 y4
    obtain ⟨-, hVv, hhi⟩ := norm_by HK.out (by have := HN.out; have := HYT.out; rw [← HYT.out]; exact HN.out) y2 y3 y4
    have hpl := norm_start HK.out HP.out HM.out x2 x3 x4
    rw [← hVv] at hpl
    have HWK := Lib.hid (work_any w.heap.size D gX gY gM (p + 1) cX cY m m k (X * 2 ^ n) OX (OY.take (k + 1)) (List.replicate m 0) Wf hDS.held hDS.left hDS.by' hDS.quot hDS.apart (fun y hy => y3 y (List.mem_of_mem_take hy)) hhi hpl HM.out.symm (by omega) hBW.size)
    have HVV := Lib.hid hVv
    have HBW := Lib.hid hBW
    have HM2 := Lib.hid hmm
    clear hDS hBW hpl hVv hhi x2 x3 x4 y2 y3 y4 hmm
    simp only [Exit.then]
    go_wp2_with fail
    refine HWK.out.mono ?_
    rintro e w6 ⟨⟨v6, rfl⟩, ⟨L6, Q6, hD6, hL6, hQ6, hP6⟩, hb6⟩
    have HB6 := Lib.hid (HBW.out.trans hb6)
    rw [HVV.out] at hP6
    have hend := norm_end hP6
    have hL6l := hP6.llim
    have hq6 := hP6.qlim
    have HQU := Lib.hid hend.1
    have HRE := Lib.hid hend.2
    have NQ := Lib.hid (natAt_list hQ6 hq6 hend.1)
    have HL6 := Lib.hid hL6
    have HL6L := Lib.hid hL6l
    have HD6 := Lib.hid hD6
    have cQ := hD6.cell 2 rfl
    have hqt := Lib.hid (show X / Y < topN from Nat.lt_of_le_of_lt (Nat.div_le_self _ _) HX.out)
    have hrt := Lib.hid (show X % Y < topN from Nat.lt_of_le_of_lt (Nat.mod_le _ _) HX.out)
    clear hb6 hP6 hend hL6 hL6l hq6 hD6 hQ6 HWK HBW
    go_wp2_with fail
    refine (trim_ok NQ.out hqt.out).mono ?_
    rintro e w7 ⟨⟨v7, rfl, ho7⟩, hb7⟩
    have O7 := Lib.hid ho7
    have HL7 := Lib.hid (HL6.out.below hb7)
    have cL := (HD6.out.below hb7).cell 0 rfl
    have HB7 := Lib.hid (HB6.out.trans (hb7.mono HB6.out.size))
    have HS6 := Lib.hid HB6.out.size
    have hcl : p + 1 ≤ cX := HL6.out.cap.2.1
    clear ho7 hb7 cQ NQ HD6 HB6
    have HUN := Lib.hid (unshifted_any _ _ _ (L6.take (k + 1)) w7 (HL7.out.reads.upto (k + 1) (by omega)) (fun y hy => HL6L.out y (List.mem_of_mem_take hy)) n hn32 (by omega))
    go_wp2_with fail
    refine HUN.out.mono ?_
    rintro e w8 ⟨⟨O, ⟨v8, rfl, ho8⟩, h8l, h8m, h8v⟩, hb8⟩
    obtain ⟨a8, n8, c8, rfl, hn8, ho8⟩ := ho8.slice
    have N8 := Lib.hid (natAt_list ho8 h8m (h8v.trans HRE.out))
    have O8 := Lib.hid (O7.out.below hb8)
    have O8B := Lib.hid (show w7.heap.size ≤ w8.heap.size from hb8.size)
    have HB8 := Lib.hid (HB7.out.trans (hb8.mono HB7.out.size))
    clear ho8 hn8 h8l h8m h8v hb8 cL HUN HL7
    go_wp2_with fail
    refine (trim_ok N8.out hrt.out).mono ?_
    rintro e w9 ⟨⟨v9, rfl, ho9⟩, hb9⟩
    have O9 := Lib.hid ho9
    have O79 := Lib.hid (O8.out.below hb9)
    have HB9 := Lib.hid (HB8.out.trans (hb9.mono HB8.out.size))
    clear ho9 hb9
    go_wp2_with fail
    refine bodyPost_ret (v := .tuple #[v7, v9, .int .i64 0]) (by simp [results, Try.results59, go_sem]) rfl ⟨⟨v7, v9, rfl, O79.out.mono HS6.out, O9.out.mono HB8.out.size, off_of O7.out O9.out O8B.out⟩, HB9.out⟩

end Go.Proofs.Ytebfoalcmnpghaa
