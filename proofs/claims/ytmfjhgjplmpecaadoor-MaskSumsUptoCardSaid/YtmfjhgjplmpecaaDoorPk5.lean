/-
  Texts of ours, one behind the other: Mk4 SeqM MkS MkU Rs0 ShaY ShaR ShaT ShaV ShaX Sh1 Sh2 Sh3 Sh4 NatMath Sh5
-/
import Derived.Test.YtmfjhgjplmpecaaDoorPk1
import Derived.Test.YtmfjhgjplmpecaaDoorPk2
import Derived.Test.YtmfjhgjplmpecaaDoorPk4
import Derived.Lib.SmallJoins
import Derived.Maps.OwnIn
import Derived.KernelRfl
import Derived.Deep.RegionHeld3
import Derived.BigQuiet
set_option linter.unusedVariables false
set_option linter.unusedSimpArgs false

namespace Go.Proofs.YtmfjhgjplmpecaaDoor
open Go.RowKit Go.Shelf
set_option maxRecDepth 100000

def eqS (h : Nat) (s : ByteArray) : Bool := (strOf (mName h)).toList == s.toList
def mNamed (s : ByteArray) : Int := if eqS 1 s = true then 1 else if eqS 2 s = true then 2 else if eqS 3 s = true then 3 else if eqS 4 s = true then 4 else 0

theorem idxK0 (w : World) : (Instr.index 61 (.agg #[.string (strOf [115, 104, 97, 50, 50, 52]), .int .i64 28, .int .u8 4, .string (strOf [115, 104, 97, 50, 53, 54]), .int .i64 32, .int .u8 1, .string (strOf [115, 104, 97, 51, 56, 52]), .int .i64 48, .int .u8 2, .string (strOf [115, 104, 97, 53, 49, 50]), .int .i64 64, .int .u8 3]) (.int .i64 0)).run Tryd.prog w = .ok (.agg #[.string (strOf [115, 104, 97, 50, 50, 52]), .int .i64 28, .int .u8 4]) w := by kernel_rfl
theorem idxK1 (w : World) : (Instr.index 61 (.agg #[.string (strOf [115, 104, 97, 50, 50, 52]), .int .i64 28, .int .u8 4, .string (strOf [115, 104, 97, 50, 53, 54]), .int .i64 32, .int .u8 1, .string (strOf [115, 104, 97, 51, 56, 52]), .int .i64 48, .int .u8 2, .string (strOf [115, 104, 97, 53, 49, 50]), .int .i64 64, .int .u8 3]) (.int .i64 1)).run Tryd.prog w = .ok (.agg #[.string (strOf [115, 104, 97, 50, 53, 54]), .int .i64 32, .int .u8 1]) w := by kernel_rfl
theorem idxK2 (w : World) : (Instr.index 61 (.agg #[.string (strOf [115, 104, 97, 50, 50, 52]), .int .i64 28, .int .u8 4, .string (strOf [115, 104, 97, 50, 53, 54]), .int .i64 32, .int .u8 1, .string (strOf [115, 104, 97, 51, 56, 52]), .int .i64 48, .int .u8 2, .string (strOf [115, 104, 97, 53, 49, 50]), .int .i64 64, .int .u8 3]) (.int .i64 2)).run Tryd.prog w = .ok (.agg #[.string (strOf [115, 104, 97, 51, 56, 52]), .int .i64 48, .int .u8 2]) w := by kernel_rfl
theorem idxK3 (w : World) : (Instr.index 61 (.agg #[.string (strOf [115, 104, 97, 50, 50, 52]), .int .i64 28, .int .u8 4, .string (strOf [115, 104, 97, 50, 53, 54]), .int .i64 32, .int .u8 1, .string (strOf [115, 104, 97, 51, 56, 52]), .int .i64 48, .int .u8 2, .string (strOf [115, 104, 97, 53, 49, 50]), .int .i64 64, .int .u8 3]) (.int .i64 3)).run Tryd.prog w = .ok (.agg #[.string (strOf [115, 104, 97, 53, 49, 50]), .int .i64 64, .int .u8 3]) w := by kernel_rfl
set_option maxHeartbeats 1000000 in
theorem named_any (s : ByteArray) (w : World) (hk : Kinds w) : Calls Tryd.prog 18 #[.string s] w fun e w' => e = .returned (.int .i64 (mNamed s)) ∧ Below w.heap.size w w' := by
  have c0 : w.cell? ⟨0, 0, none⟩ = some (.string (strOf [115, 104, 97, 50, 50, 52])) := hk 0 (by decide)
  have c1 : w.cell? ⟨0, 1, none⟩ = some (.int .i64 28) := hk 1 (by decide)
  have c2 : w.cell? ⟨0, 2, none⟩ = some (.int .u8 4) := hk 2 (by decide)
  have c3 : w.cell? ⟨0, 3, none⟩ = some (.string (strOf [115, 104, 97, 50, 53, 54])) := hk 3 (by decide)
  have c4 : w.cell? ⟨0, 4, none⟩ = some (.int .i64 32) := hk 4 (by decide)
  have c5 : w.cell? ⟨0, 5, none⟩ = some (.int .u8 1) := hk 5 (by decide)
  have c6 : w.cell? ⟨0, 6, none⟩ = some (.string (strOf [115, 104, 97, 51, 56, 52])) := hk 6 (by decide)
  have c7 : w.cell? ⟨0, 7, none⟩ = some (.int .i64 48) := hk 7 (by decide)
  have c8 : w.cell? ⟨0, 8, none⟩ = some (.int .u8 2) := hk 8 (by decide)
  have c9 : w.cell? ⟨0, 9, none⟩ = some (.string (strOf [115, 104, 97, 53, 49, 50])) := hk 9 (by decide)
  have c10 : w.cell? ⟨0, 10, none⟩ = some (.int .i64 64) := hk 10 (by decide)
  have c11 : w.cell? ⟨0, 11, none⟩ = some (.int .u8 3) := hk 11 (by decide)
  have hlt := hk.lt
  have HB0 := Lib.hid (Below.refl w.heap.size w)
  clear hk
  go_enter Tryd.func18, Tryd.ntmps18
  go_wp2_with fail
  clear c0 c1 c2 c3 c4 c5 c6 c7 c8 c9 c10 c11
  go_loopw [6] (fun iv wq => ∃ i : Nat, iv = .int .i64 (i : Int) ∧ i ≤ 4 ∧ Hid ((∀ j, j < i → eqS (j + 1) s = false) ∧ Below w.heap.size w wq)) (fun iv _ => 4 - (intOf iv).toNat)
  case atStart => exact ⟨0, rfl, Nat.zero_le _, fun j hj => by omega, HB0.out⟩
  case round =>
    obtain ⟨i, rfl, hi, hI⟩ := hrel
    have HJ := Lib.hid hI.out.1
    have HB := Lib.hid hI.out.2
    have hsz := hI.out.2.size
    clear hI
    rcases (show i = 0 ∨ i = 1 ∨ i = 2 ∨ i = 3 ∨ i = 4 by omega) with rfl | rfl | rfl | rfl | rfl
    · cases he : eqS 1 s with
      | true =>
        have e1 : ((strOf [115, 104, 97, 50, 50, 52]).toList == s.toList) = true := he
        have HN := Lib.hid (show mNamed s = 1 by
          have h0 := HJ.out
          unfold mNamed
          simp [he])
        clear he
        have ix := idxK0
        go_wp2
        go_ret
        exact ⟨by rw [HN.out]; rfl, by have h := HB.out; (repeat' (first | exact h | refine Below.drew ?_ | refine Below.alloc ?_ (by first | omega | (simp; omega)) _))⟩
      | false =>
        have e1 : ((strOf [115, 104, 97, 50, 50, 52]).toList == s.toList) = false := he
        have HE := Lib.hid he
        clear he
        have ix := idxK0
        go_wp2
        go_roundw
        case rel => exact ⟨1, by go_num, by omega, fun j hj => (by
          rcases (show j < 0 ∨ j = 0 by omega) with h1 | rfl
          · exact HJ.out j h1
          · exact HE.out), by have h := HB.out; (repeat' (first | exact h | refine Below.drew ?_ | refine Below.alloc ?_ (by first | omega | (simp; omega)) _))⟩
        case measure => simp [intOf]
    · cases he : eqS 2 s with
      | true =>
        have e1 : ((strOf [115, 104, 97, 50, 53, 54]).toList == s.toList) = true := he
        have HN := Lib.hid (show mNamed s = 2 by
          have h0 := HJ.out
          have p1 := h0 0 (by decide)
          simp only [Nat.reduceAdd] at p1
          unfold mNamed
          simp [he, p1])
        clear he
        have ix := idxK1
        go_wp2
        go_ret
        exact ⟨by rw [HN.out]; rfl, by have h := HB.out; (repeat' (first | exact h | refine Below.drew ?_ | refine Below.alloc ?_ (by first | omega | (simp; omega)) _))⟩
      | false =>
        have e1 : ((strOf [115, 104, 97, 50, 53, 54]).toList == s.toList) = false := he
        have HE := Lib.hid he
        clear he
        have ix := idxK1
        go_wp2
        go_roundw
        case rel => exact ⟨2, by go_num, by omega, fun j hj => (by
          rcases (show j < 1 ∨ j = 1 by omega) with h1 | rfl
          · exact HJ.out j h1
          · exact HE.out), by have h := HB.out; (repeat' (first | exact h | refine Below.drew ?_ | refine Below.alloc ?_ (by first | omega | (simp; omega)) _))⟩
        case measure => simp [intOf]
    · cases he : eqS 3 s with
      | true =>
        have e1 : ((strOf [115, 104, 97, 51, 56, 52]).toList == s.toList) = true := he
        have HN := Lib.hid (show mNamed s = 3 by
          have h0 := HJ.out
          have p1 := h0 0 (by decide)
          simp only [Nat.reduceAdd] at p1
          have p2 := h0 1 (by decide)
          simp only [Nat.reduceAdd] at p2
          unfold mNamed
          simp [he, p1, p2])
        clear he
        have ix := idxK2
        go_wp2
        go_ret
        exact ⟨by rw [HN.out]; rfl, by have h := HB.out; (repeat' (first | exact h | refine Below.drew ?_ | refine Below.alloc ?_ (by first | omega | (simp; omega)) _))⟩
      | false =>
        have e1 : ((strOf [115, 104, 97, 51, 56, 52]).toList == s.toList) = false := he
        have HE := Lib.hid he
        clear he
        have ix := idxK2
        go_wp2
        go_roundw
        case rel => exact ⟨3, by go_num, by omega, fun j hj => (by
          rcases (show j < 2 ∨ j = 2 by omega) with h1 | rfl
          · exact HJ.out j h1
          · exact HE.out), by have h := HB.out; (repeat' (first | exact h | refine Below.drew ?_ | refine Below.alloc ?_ (by first | omega | (simp; omega)) _))⟩
        case measure => simp [intOf]
    · cases he : eqS 4 s with
      | true =>
        have e1 : ((strOf [115, 104, 97, 53, 49, 50]).toList == s.toList) = true := he
        have HN := Lib.hid (show mNamed s = 4 by
          have h0 := HJ.out
          have p1 := h0 0 (by decide)
          simp only [Nat.reduceAdd] at p1
          have p2 := h0 1 (by decide)
          simp only [Nat.reduceAdd] at p2
          have p3 := h0 2 (by decide)
          simp only [Nat.reduceAdd] at p3
          unfold mNamed
          simp [he, p1, p2, p3])
        clear he
        have ix := idxK3
        go_wp2
        go_ret
        exact ⟨by rw [HN.out]; rfl, by have h := HB.out; (repeat' (first | exact h | refine Below.drew ?_ | refine Below.alloc ?_ (by first | omega | (simp; omega)) _))⟩
      | false =>
        have e1 : ((strOf [115, 104, 97, 53, 49, 50]).toList == s.toList) = false := he
        have HE := Lib.hid he
        clear he
        have ix := idxK3
        go_wp2
        go_roundw
        case rel => exact ⟨4, by go_num, by omega, fun j hj => (by
          rcases (show j < 3 ∨ j = 3 by omega) with h1 | rfl
          · exact HJ.out j h1
          · exact HE.out), by have h := HB.out; (repeat' (first | exact h | refine Below.drew ?_ | refine Below.alloc ?_ (by first | omega | (simp; omega)) _))⟩
        case measure => simp [intOf]
    · have HN := Lib.hid (show mNamed s = 0 by
        have h0 := HJ.out
        have p1 := h0 0 (by decide)
        have p2 := h0 1 (by decide)
        have p3 := h0 2 (by decide)
        have p4 := h0 3 (by decide)
        simp only [Nat.reduceAdd] at p1 p2 p3 p4
        unfold mNamed
        simp [p1, p2, p3, p4])
      go_wp2
      go_ret
      exact ⟨by rw [HN.out]; rfl, HB.out⟩

end Go.Proofs.YtmfjhgjplmpecaaDoor

namespace Go.Proofs.YtmfjhgjplmpecaaDoor
open Go.RowKit Go.Shelf
set_option maxRecDepth 100000

theorem cellM {W : World} {g i : Nat} {cs : Array Value} {E : TypeId} {fz : Nat × Nat} (h : W.heap[g]? = some (.cells cs E fz)) : W.cell? ⟨g, i, none⟩ = cs[i]? := by
  simp [World.cell?, h]
theorem readsM {W : World} {g : Nat} {l : List Nat} {cs : Array Value} {E : TypeId} {fz : Nat × Nat} {n : Nat} (h : W.heap[g]? = some (.cells cs E fz)) (hc : cs = (l.map (num .u8)).toArray) (hn : n = l.length) (hm : n ≤ 1000) : Reads .u8 W (some ⟨g, 0, none⟩) n n l := by
  subst hn
  refine ⟨rfl, Nat.le_refl _, (by unfold maxLen; omega), (fun h => by cases h), fun _ => ⟨g, 0, rfl, (Array.getElem?_eq_some_iff.1 h).1, fun i hi => ?_⟩⟩
  rw [Nat.zero_add, cellM h, hc]
  simp [num, hi]
theorem heap_alloc_two (w : World) (o p : Obj) : ((w.alloc o).alloc p).heap[w.heap.size]? = some o := by
  rw [Below.heap_alloc _ _ _ (by simp)]
  exact World.alloc_heap_new w o
theorem heap_alloc_three (w : World) (o p q : Obj) : (((w.alloc o).alloc p).alloc q).heap[w.heap.size]? = some o := by
  rw [Below.heap_alloc _ _ _ (by simp; omega)]
  exact heap_alloc_two w o p
theorem heap_alloc_mid (w : World) (o p q : Obj) : (((w.alloc o).alloc p).alloc q).heap[w.heap.size + 1]? = some p := by
  have h := heap_alloc_two (w.alloc o) p q
  rwa [World.size_alloc] at h
theorem heap_alloc_last (w : World) (o p q : Obj) : (((w.alloc o).alloc p).alloc q).heap[w.heap.size + 2]? = some q := by
  have h := World.alloc_heap_new ((w.alloc o).alloc p) q
  rwa [World.size_alloc, World.size_alloc] at h

def abcR (s : Nat) : Nat → Option Addr × Nat × Nat × List Nat
  | 0 => (some ⟨s, 0, none⟩, 1, 1, [97])
  | 1 => (none, 0, 0, [])
  | _ => (some ⟨s + 1, 0, none⟩, 2, 2, [98, 99])
theorem abc_rows (w : World) : RowsM (((w.alloc (.cells #[.int .u8 97] 5 (1, 2))).alloc (.cells #[.int .u8 98, .int .u8 99] 5 (2, 3))).alloc (.cells #[.slice (some ⟨w.heap.size, 0, none⟩) 1 1, .slice none 0 0, .slice (some ⟨w.heap.size + 1, 0, none⟩) 2 2] 23)) (some ⟨w.heap.size + 2, 0, none⟩) 3 (abcR w.heap.size) := by
  refine ⟨fun i hi => ?_, fun _ => ⟨_, 0, rfl, by simp, fun i hi => ?_⟩⟩
  · rcases (show i = 0 ∨ i = 1 ∨ i = 2 by omega) with rfl | rfl | rfl
    · exact ⟨readsM (heap_alloc_three w _ _ _) rfl rfl (show 1 ≤ 1000 by decide), (by decide : Byt [97]), (by decide : 1 ≤ 1048576)⟩
    · exact ⟨Reads.none _ _, (by decide : Byt []), (by decide : 0 ≤ 1048576)⟩
    · exact ⟨readsM (heap_alloc_mid w _ _ _) rfl rfl (show 2 ≤ 1000 by decide), (by decide : Byt [98, 99]), (by decide : 2 ≤ 1048576)⟩
  · rw [Nat.zero_add, cellM (heap_alloc_last w _ _ _)]
    rcases (show i = 0 ∨ i = 1 ∨ i = 2 by omega) with rfl | rfl | rfl <;> rfl

theorem abc_hex : hexL (u8s (mHash 2 [97, 98, 99])) = [98, 97, 55, 56, 49, 54, 98, 102, 56, 102, 48, 49, 99, 102, 101, 97, 52, 49, 52, 49, 52, 48, 100, 101, 53, 100, 97, 101, 50, 50, 50, 51, 98, 48, 48, 51, 54, 49, 97, 51, 57, 54, 49, 55, 55, 97, 57, 99, 98, 52, 49, 48, 102, 102, 54, 49, 102, 50, 48, 48, 49, 53, 97, 100] := by kernel_rfl
set_option maxHeartbeats 1000000 in
theorem alive_m (w : World) (hk : Kinds w) : Calls Tryd.prog 24 #[] w fun e w' => e = .returned (.bool true) ∧ Below w.heap.size w w' := by
  have HK := Lib.hid hk
  have HB0 := Lib.hid ((((Below.refl w.heap.size w).alloc (Nat.le_refl _) (.cells #[.int .u8 97] 5 (1, 2))).alloc (by simp) (.cells #[.int .u8 98, .int .u8 99] 5 (2, 3))).alloc (by simp; omega) (.cells #[.slice (some ⟨w.heap.size, 0, none⟩) 1 1, .slice none 0 0, .slice (some ⟨w.heap.size + 1, 0, none⟩) 2 2] 23))
  have HR := Lib.hid (abc_rows w)
  have cv1 := Joins.run_convert_bytes_const_at (P := Tryd.prog) w 23 5 #[.int .u8 97] 1 1 w.heap.size rfl Tryd.underlying23 Tryd.underlying5
  have cv2 := Joins.run_convert_bytes_const_at (P := Tryd.prog) (w.alloc (.cells #[.int .u8 97] 5 (1, 2))) 23 5 #[.int .u8 98, .int .u8 99] 2 2 (w.heap.size + 1) (by simp) Tryd.underlying23 Tryd.underlying5
  simp only [List.size_toArray, List.length_cons, List.length_nil, Nat.reduceAdd] at cv1 cv2
  clear hk
  go_enter Tryd.func24, Tryd.ntmps24
  go_wp2_with fail
  generalize ((w.alloc (.cells #[.int .u8 97] 5 (1, 2))).alloc (.cells #[.int .u8 98, .int .u8 99] 5 (2, 3))).alloc (.cells #[.slice (some ⟨w.heap.size, 0, none⟩) 1 1, .slice none 0 0, .slice (some ⟨w.heap.size + 1, 0, none⟩) 2 2] 23) = w1 at *
  refine (sum_yes 2 (by simp [IsHash]) _ 3 3 _ w1 (HK.out.below HB0.out) HR.out (by decide)).mono ?_
  rintro e w2 ⟨⟨ad, c, rfl, h1, -⟩, h3⟩
  have H1 := Lib.hid h1
  have HB2 := Lib.hid (HB0.out.trans (h3.mono HB0.out.size))
  clear h1 h3 cv1 cv2
  rw [show mSize 2 = 32 from rfl] at H1 ⊢
  go_wp2_with fail
  refine (size_yes 3 (by simp [IsHash]) w2 (HK.out.below HB2.out)).mono ?_
  rintro e w3 ⟨rfl, h3⟩
  rw [show mSize 3 = 48 from rfl]
  have H1 := Lib.hid (H1.out.below h3)
  have HB3 := Lib.hid (HB2.out.trans (h3.mono HB2.out.size))
  clear h3
  go_wp2_with fail
  refine (name_no 5 (by decide) w3).mono ?_
  rintro e w4 ⟨rfl, h3⟩
  have H1 := Lib.hid (H1.out.below h3)
  have HB4 := Lib.hid (HB3.out.trans (h3.mono HB3.out.size))
  clear h3
  go_wp2_with fail
  refine (named_any _ w4 (HK.out.below HB4.out)).mono ?_
  rintro e w5 ⟨rfl, h3⟩
  rw [show mNamed { data := #[115, 104, 97, 53, 49, 50] } = 4 by kernel_rfl]
  have H1 := Lib.hid (H1.out.below h3)
  have HB5 := Lib.hid (HB4.out.trans (h3.mono HB4.out.size))
  clear h3
  go_wp2_with fail
  refine (hex_any _ _ _ _ w5 (H1.out.bts (mHash_byt (by simp [IsHash]) _)) (by omega)).mono ?_
  rintro e w6 ⟨rfl, h3⟩
  have HB6 := Lib.hid (HB5.out.trans (h3.mono HB5.out.size))
  clear h3
  rw [show hexL (u8s (mHash 2 (flatM (abcR w.heap.size) 3))) = [98, 97, 55, 56, 49, 54, 98, 102, 56, 102, 48, 49, 99, 102, 101, 97, 52, 49, 52, 49, 52, 48, 100, 101, 53, 100, 97, 101, 50, 50, 50, 51, 98, 48, 48, 51, 54, 49, 97, 51, 57, 54, 49, 55, 55, 97, 57, 99, 98, 52, 49, 48, 102, 102, 54, 49, 102, 50, 48, 48, 49, 53, 97, 100] from abc_hex]
  go_wp2
  go_ret
  exact ⟨by simp [strOf], HB6.out⟩
end Go.Proofs.YtmfjhgjplmpecaaDoor

namespace Go.Proofs.YtmfjhgjplmpecaaDoor
open Go.RowKit Go.Shelf
set_option maxRecDepth 100000

theorem wpList_append_noughtsM {P : Program} (w : World) {ops : Array Oper} {rest : List Oper} {o : Oper} {a : Act} {Q : Exit → Act → World → Prop} (hgd : o.guard = .none) (s x : Operand) (t tn : TypeId)
    (ho : o.op = .call { callee := .builtin .append, args := #[s, x], argTypes := #[t, tn] })
    (B E : Nat) (i : TypeInfo) (ht : P.underlying t = some (.slice E)) (htn : P.underlying tn = some (.int .i64)) (hi : P.info? E = some i) (hz : i.zero = some (.int .u8 0)) (hsize : i.size = 1) (hby : i.bytes = 1)
    (v : Value) (l : List Nat) (hs : a.eval s = v) (hown : OwnQ .u8 E B w v l) (k : Nat) (hk0 : 0 < k) (hx : a.eval x = .int .i64 (k : Int)) (hb : l.length + k ≤ 140737488355328) (hk6 : k ≤ 1000000) (hbase : B ≤ w.heap.size)
    (h : ∀ v' w', OwnQ .u8 E B w' v' (l ++ List.replicate k 0) → (∀ w0, Below B w0 w → Below B w0 w') → wpList P ops Q rest (a.put o.dst v') w') : wpList P ops Q (o :: rest) a w := by
  rcases hown.form with ⟨ao, c, rfl, -, -⟩
  cases ao with
  | none =>
    have hl0 : l = [] := by
      rcases hown.2 with ⟨_, h0⟩ | ⟨g, _, _, e, _⟩
      · exact List.eq_nil_of_length_eq_zero h0
      · simp at e
    subst hl0
    have hc0 : c = 0 := by
      rcases hown.2 with ⟨e, _⟩ | ⟨g, _, _, e, _⟩
      · simpa using e
      · simp at e
    subst hc0
    have hold : (Builtin.firstCells i.size 0 (.slice none 0 0)).run P w.drew = .ok ([] : List Value).toArray w.drew := by simp [Builtin.firstCells]
    have hb' : k ≤ 140737488355328 := by simpa using hb
    have hfit : Builtin.nextslicecap (0 + k) 0 * i.bytes ≤ 281474976710656 := growslice_fits (by omega) (by rw [hby]; omega)
    have hrun := Lib.run_append_grow_zeros (P := P) w t tn o.type E i (.int .u8 0) .i64 .i64 ht htn hi hz none 0 0 [] hold k hk0 (by omega) (by omega) (by omega) (by rw [hby]; omega) hfit
    have hge := grownCap_ge w (0 + k) 0 E
    have hcm := grownCap_le_maxLen w (0 + k) 0 E (by unfold maxLen; omega)
    refine wpList_plain hgd fun K hK' => ?_
    unfold Oper.wp
    simp only [execOp, ho, resolve, invoke, builtin, Sem.run_bind, Sem.run_pure, Result.andThen_ok, List.map_toArray, List.map_cons, List.map_nil, hs, hx, List.length_nil, hrun]
    refine hK' _ _ (h _ _ ⟨by simp, .inr ⟨w.heap.size, _, _, ?_, hbase, heap_alloc_new w.drew _, ?_, hcm, ?_, ?_⟩⟩ (fun w0 hB => hB.drew.alloc (by simpa using hbase) _))
    · simp
    · simpa using hge
    · have hge2 := hge
      simp only [Nat.zero_add] at hge2
      simp only [Array.size_append, List.size_toArray, size_zeroCells, List.length_nil]
      simp [Value.cells]
      omega
    · rw [Array.toList_append, Array.toList_append, show (Value.int .u8 0).cells = #[Value.int .u8 0] from rfl, noughtCells]
      simp [num, List.take_append]
  | some ad =>
    obtain ⟨g, rfl⟩ : ∃ g, ad = ⟨g, 0, .none⟩ := by
      rcases hown.2 with ⟨e, _⟩ | ⟨g, _, _, e, _⟩
      · simp at e
      · simp only [Value.slice.injEq, Option.some.injEq] at e
        exact ⟨g, e.1⟩
    have hcap := hown.cap
    rcases Nat.lt_or_ge c (l.length + k) with hgr | hroom
    · have hold := run_firstCells_some (P := P) w.drew i.size l.length ⟨g, 0, .none⟩ l.length c (l.map (num .u8)) (by rw [hsize]; simp) (by
        intro j u hu
        have := hown.reads.news j u hu
        simpa using this)
      have hfit : Builtin.nextslicecap (l.length + k) c * i.bytes ≤ 281474976710656 := growslice_fits (by omega) (by rw [hby]; omega)
      have hrun := Lib.run_append_grow_zeros (P := P) w t tn o.type E i (.int .u8 0) .i64 .i64 ht htn hi hz (some ⟨g, 0, .none⟩) l.length c (l.map (num .u8)) hold k (by omega) (by omega) hgr (by omega) (by rw [hby]; omega) hfit
      have hge := grownCap_ge w (l.length + k) c E
      have hcm := grownCap_le_maxLen w (l.length + k) c E (by unfold maxLen; omega)
      refine wpList_plain hgd fun K hK' => ?_
      unfold Oper.wp
      simp only [execOp, ho, resolve, invoke, builtin, Sem.run_bind, Sem.run_pure, Result.andThen_ok, List.map_toArray, List.map_cons, List.map_nil, hs, hx, hrun]
      refine hK' _ _ (h _ _ ⟨by simp, .inr ⟨w.heap.size, _, _, ?_, hbase, heap_alloc_new w.drew _, ?_, hcm, ?_, ?_⟩⟩ (fun w0 hB => hB.drew.alloc (by simpa using hbase) _))
      · simp
      · simpa using hge
      · simp only [Array.size_append, List.size_toArray, size_zeroCells, List.length_map]
        simp [Value.cells]
        omega
      · rw [Array.toList_append, Array.toList_append, show (Value.int .u8 0).cells = #[Value.int .u8 0] from rfl, noughtCells]
        simp [num, List.take_append]
        exact List.take_of_length_le (by simp)
    · rcases hown.2 with ⟨h1, _⟩ | ⟨g', cap', cur, h1, hbg, hg, hnc, hcm, hcs, htake⟩
      · simp at h1
      · simp only [Value.slice.injEq, Option.some.injEq, Addr.mk.injEq, and_true, true_and] at h1
        obtain ⟨rfl, rfl⟩ := h1
        have hrun := run_append_room_zeros (P := P) w t tn o.type E i (.int .u8 0) .i64 .i64 ht htn hi hz rfl rfl hsize hby g l.length c cur hg k hroom (by omega) (by omega)
        refine wpList_plain hgd fun K hK' => ?_
        unfold Oper.wp
        simp only [execOp, ho, resolve, invoke, builtin, Sem.run_bind, Sem.run_pure, Result.andThen_ok, List.map_toArray, List.map_cons, List.map_nil, hs, hx, hrun]
        have hgrow : w.grownBy (w.setRow g (cur.toList.take l.length ++ List.replicate k (Value.int .u8 0) ++ cur.toList.drop (l.length + k)).toArray) (some g) := ⟨rfl, rfl, rfl, by simp, fun k' _ hk => setRow_other w g k' _ (fun e => hk (by simp [e]))⟩
        refine hK' _ _ (h _ _ ⟨by simp, .inr ⟨g, c, _, by simp, hbg, setRow_heap w g cur _ E _ hg, by simpa using hroom, hcm, ?_, ?_⟩⟩ (fun w0 hB => hB.grown hgrow hbase (fun r e => by cases e; exact hbg)))
        · simp
          omega
        · have : cur.toList.take l.length = l.map (num .u8) := by simpa using htake
          rw [this]
          simp [num, List.take_append]
          exact List.take_of_length_le (by simp)

theorem wpList_append_q1 {P : Program} (q : IntKind) (w : World) {ops : Array Oper} {rest : List Oper} {o : Oper} {a : Act} {Q : Exit → Act → World → Prop} (hgd : o.guard = .none) (s x : Operand) (t : TypeId)
    (ho : o.op = .call { callee := .builtin .append, args := #[s, x], argTypes := #[t, t] })
    (B E : Nat) (i : TypeInfo) (ht : P.underlying t = some (.slice E)) (hi : P.info? E = some i) (hz : i.zero = some (.int q 0)) (hsize : i.size = 1) (hby : i.bytes = 1)
    (v : Value) (l : List Nat) (hs : a.eval s = v) (hown : OwnQ q E B w v l) (ao : Option Addr) (m c : Nat) (l2 : List Nat) (hx : a.eval x = .slice ao m c) (hb : Reads q w ao m c l2)
    (hsum : l.length + m ≤ 140737488355328) (hbase : B ≤ w.heap.size)
    (h : ∀ v' w', OwnQ q E B w' v' (l ++ l2) → (∀ w0, Below B w0 w → Below B w0 w') → wpList P ops Q rest (a.put o.dst v') w') : wpList P ops Q (o :: rest) a w := by
  have hlen := hb.length
  have hbb : (l.length + m) * 1 ≤ 140737488355328 := by omega
  cases ao with
  | some ad =>
    refine wpList_append_own w hgd s x t ho B E i (.int q 0) 1 1 ht hi hz hsize hby rfl (by decide) v l.length (l.map (num q)) hs hown ad m c (l2.map (num q)) hx (by simpa using hlen) hb.news (nums_oneCell _ _) (by unfold maxLen; omega) hbb hbase ?_
    intro v' w' ho' hg _
    refine h v' w' ?_ (fun w0 h0 => h0.grown hg hbase (fun k hk => (hown.lt k hk).1))
    unfold OwnQ
    rw [List.map_append, List.length_append, hlen]
    exact ho'
  | none =>
    have hc := hb.nil rfl
    have hle := hb.le
    obtain rfl : m = 0 := by omega
    obtain rfl : l2 = [] := List.eq_nil_of_length_eq_zero hlen
    subst hc
    refine wpList_plain hgd fun K hK' => ?_
    have hrun := run_append_owned_none (P := P) w B t o.type E i 1 ht hi v l.length (l.map (num q)) hown
    unfold Oper.wp
    simp [execOp, ho, resolve, invoke, builtin, hs, hx, hrun, Result.andThen]
    exact hK' _ _ (by simpa using h v w (by simpa using hown) (fun _ h0 => h0))

theorem rows_alloc (W0 W : World) (cs : Array Value) (n : Nat) (R : Nat → Option Addr × Nat × Nat × List Nat) {E : TypeId} (hb : Below W0.heap.size W0 W) (hr : ∀ i, i < n → Reads .u8 W0 (R i).1 (R i).2.1 (R i).2.2.1 (R i).2.2.2 ∧ Byt (R i).2.2.2 ∧ (R i).2.1 ≤ 1048576)
    (hc : ∀ i, i < n → cs[i]? = some (.slice (R i).1 (R i).2.1 (R i).2.2.1)) : RowsM (W.alloc (.cells cs E)) (some ⟨W.heap.size, 0, none⟩) n R :=
  ⟨fun i hi => ⟨((hr i hi).1.below hb).below ((Below.refl _ _).alloc (Nat.le_refl _) _), (hr i hi).2⟩, fun _ => ⟨_, 0, rfl, by simp, fun i hi => by
    rw [Nat.zero_add, cellM (World.alloc_heap_new W _)]
    exact hc i hi⟩⟩
theorem hash_m (n : Nat) (hn : n < 256) (w : World) : Calls Tryd.prog 25 #[.int .u8 (n : Int)] w fun e w' => e = .returned (.int .i64 ((1 + n % 4 : Nat) : Int)) ∧ w = w' := by
  obtain ⟨r, hr⟩ : ∃ r, r = n % 4 := ⟨_, rfl⟩
  have hm : Int.tmod (n : Int) 4 = (r : Int) := by
    rw [Int.tmod_eq_emod_of_nonneg (by omega)]
    omega
  have hr4 : r < 4 := by omega
  have hw : IntKind.u8.wrap (1 + (r : Int)) = ((1 + r : Nat) : Int) := by rw [IntKind.wrap_u8]; omega
  have hw2 : IntKind.u8.wrap (r : Int) = (r : Int) := by rw [IntKind.wrap_u8]; omega
  rw [← hr]
  clear hr
  go_enter Tryd.func25, Tryd.ntmps25
  go_wp2
  go_ret
  exact ⟨by simp, rfl⟩
theorem isHash_m (n : Nat) : IsHash (1 + n % 4) := by unfold IsHash; omega

end Go.Proofs.YtmfjhgjplmpecaaDoor

namespace Go.Proofs.YtmfjhgjplmpecaaDoor
open Go.RowKit

/-- The contract of such an iterator, which goes on while the caller lets fewer than N come. -/
def SeqM {α : Type} (R : Nat → Prop) (F : Fence) (n : Nat) (P : Program) (g : Nat) (lb : Array Value) (encs : α → Array Value) (Gd : List α → α → World → Prop) (N : Nat) (w : World) : Prop :=
  ∀ (l : Nat) (J Jx : List α → World → Prop) (W : World), Below w.heap.size w W → (∀ s X X', J s X → X.grownBy X' none → J s X') →
    (∀ s X X', Jx s X → X.grownBy X' none → Jx s X') → (∀ pre X, J pre X → pre.length < N) →
    (∀ pre x X, J pre X → Gd pre x X → YieldAt F (n - 1) P l (encs x) X fun e X' => (e = .returned (.bool true) ∧ J (pre ++ [x]) X' ∧ KpR R X X') ∨ (e = .returned (.bool false) ∧ Jx (pre ++ [x]) X')) →
    J [] W → CallsIn F n P g (#[.func (.yield l) #[] #[]] ++ lb) W fun e X => (∃ v, e = .returned v) ∧ ∃ pre, Jx pre X
/-- What goes on whatever the loop's own book-keeping writes from B on. -/
def StaysW {β : Type} (B : Nat) (J : β → World → Prop) : Prop := ∀ s W W' row, J s W → W.grownBy W' row → (∀ r, row = some r → B ≤ r ∧ ∃ o : Obj, W.heap[r]? = some o ∧ o.isCells = false) → J s W'

set_option maxHeartbeats 1000000 in
/-- The caller's law. -/
theorem wpIn_rangeM {α : Type} {F : Fence} {n : Nat} {P : Program} {R : Nat → Prop} {g : Operand} {ps : Array Tmp} {assign body : Code} {Q : Exit → Act → World → Prop} {a : Act} {w : World}
    (hro : F.round = none) (h1 : 1 ≤ n) {gf : Nat} {lb : Array Value} (hg : a.eval g = .func (.func gf) #[] lb) (hFg : F.fn gf) (eg : ∀ args w, (callFunc gf args).run P w = .ok (.enter gf args) w)
    {encs : α → Array Value} {Gd : List α → α → World → Prop} {N : Nat} {w0 : World} (hseq : SeqM R F (n - 1) P gf lb encs Gd N w0) (hRl : ∀ k, R k → k < w.heap.size) (hb0 : Below w0.heap.size w0 w) (hps : ∀ x, (encs x).size = ps.size)
    (I : List α → World → Prop) (Ix : Code → List α → World → Prop) (hI : StaysW w.heap.size I) (hIx : ∀ c, StaysW w.heap.size (Ix c)) (hGd : StaysW w.heap.size (fun (s : List α × α) W => Gd s.1 s.2 W)) (hN : ∀ pre W, I pre W → pre.length < N) (h0 : I [] w) (a₁ : α → Act)
    (hassign : ∀ (l : Nat) (x : α) (W : World) (K : Act → World → Prop), K (a₁ x) W →
      assign.wpIn (F.inRound l) (n - 1 - 1) P (Exit.then K (fun _ _ _ => False)) { tmps := (ps.zip (encs x)).foldl (fun t (p, v) => t.setIfInBounds p v) a.tmps, defers := [] } W)
    (hbody : ∀ (l : Nat) (pre : List α) (x : α) (W : World), I pre W → Gd pre x W → body.wpIn (F.inRound l) (n - 1 - 1) P (ownPostG w.heap.size (KpR R) I Ix (pre ++ [x]) W) (a₁ x) W)
    (hstop : ∀ (D : Nat) (c : Code) (pre : List α) (W : World), w.heap.size ≤ D → Ix c pre W → W.heap[D]? = some (.deferred (some [])) → c.wpIn F n P Q { a with defers := { target := .collected D, args := #[] } :: a.defers } W) :
    (Code.rangeFunc g ps assign body).wpIn F n P Q a w := by
  refine wpIn_rangeFunc fun fn hfn => ?_
  rw [hro]
  generalize hB : w.heap.size = B at *
  obtain ⟨rc, hrc⟩ : ∃ rc : LoopState → Option Code → Loop, rc = fun st pe => { state := st, pending := pe, fn, tmps := a.tmps, params := ps, assign, body, defers := B } := ⟨_, rfl⟩
  obtain ⟨W1, hW1⟩ : ∃ W1, (w.alloc (.deferred (some []))).alloc (.loop (rc .ready none)) = W1 := ⟨_, rfl⟩
  have bel1 : Below B w W1 := by rw [← hW1]; exact ((Below.refl _ w).alloc (Nat.le_of_eq hB.symm) _).alloc (by simp; omega) _
  have hD1 : W1.heap[B]? = some (.deferred (some [])) := by
    rw [← hW1]
    refine (Below.heap_alloc _ _ _ (by simp; omega)).trans ?_
    have := World.alloc_heap_new w (.deferred (some []))
    rwa [hB] at this
  have hL1 : W1.heap[B + 1]? = some (.loop (rc .ready none)) := by
    have := World.alloc_heap_new (w.alloc (.deferred (some []))) (.loop (rc .ready none))
    rwa [World.size_alloc, hB, hW1] at this
  have hz1 : W1.heap.size = B + 2 := by rw [← hW1]; simp; omega
  have hi1 : I [] W1 := by
    rw [← hW1]
    exact hI _ _ _ none (hI _ _ _ none h0 (World.grownBy_alloc w _ none) (fun r e => by cases e)) (World.grownBy_alloc _ _ none) (fun r e => by cases e)
  have put : ∀ {β : Type} {G : β → World → Prop} (_ : StaysW B G) {s : β} {W : World} {r : Loop} (o : Obj), G s W → W.heap[B + 1]? = some (.loop r) → G s (W.putObj (B + 1) o) := fun hG s W r o hs hl =>
    hG s W _ (some (B + 1)) hs (grownBy_putObj' W (B + 1) o) (fun k e => by cases e; exact ⟨by omega, _, hl, rfl⟩)
  refine ⟨B + 1, [{ target := .collected B, args := #[] }], W1, { target := .fn (.func gf) lb, args := #[.func (.yield (B + 1)) #[] #[]] }, W1, gf, #[.func (.yield (B + 1)) #[] #[]] ++ lb, W1, ?_, by simp only [resolve, hg]; simp [go_sem], ?_, by simp [invoke, go_sem, eg], fun _ => h1, ?_⟩
  · rw [← hW1, hrc, ← hB]
    exact run_enterLoop_outer _ _ _ _ _
  · intro f' hf'
    simp [Target.leads] at hf'
    subst hf'
    exact hFg
  have stay : ∀ {G : List α → World → Prop} (_ : StaysW B G) (ro : Loop) (s : List α) (X X' : World), (G s X ∧ X.heap[B + 1]? = some (.loop ro) ∧ X.heap[B]? = some (.deferred (some []))) → X.grownBy X' none → G s X' ∧ X'.heap[B + 1]? = some (.loop ro) ∧ X'.heap[B]? = some (.deferred (some [])) := fun hG ro s X X' h hgr =>
    ⟨hG s X X' none h.1 hgr (fun r e => by cases e), (hgr.block _ (Array.getElem?_eq_some_iff.1 h.2.1).1 (fun e => by cases e)).trans h.2.1, (hgr.block _ (Array.getElem?_eq_some_iff.1 h.2.2).1 (fun e => by cases e)).trans h.2.2⟩
  refine (hseq (B + 1) (fun s X => I s X ∧ X.heap[B + 1]? = some (.loop (rc .ready none)) ∧ X.heap[B]? = some (.deferred (some [])))
    (fun s X => ∃ c, Ix c s X ∧ X.heap[B + 1]? = some (.loop (rc .done (some c))) ∧ X.heap[B]? = some (.deferred (some []))) W1 (hb0.trans (bel1.mono (by rw [← hB]; exact hb0.size)))
    (fun s X X' h hgr => stay hI _ s X X' h hgr) (fun s X X' ⟨c, h⟩ hgr => ⟨c, stay (hIx c) _ s X X' h hgr⟩) (fun pre X h => hN pre X h.1) ?_ ⟨hi1, hL1, hD1⟩).mono ?_
  · rintro pre x X ⟨hi, hl, hd⟩ hgd
    have hlt : B + 1 < X.heap.size := (Array.getElem?_eq_some_iff.1 hl).1
    have hy := run_yield (P := P) (args := encs x) hl (by rw [hrc]; exact hps x)
    rw [hrc] at hy
    refine ⟨fn, _, assign, body, hy, roundIn_of_wpIn hfn (hassign _ x X _ ⟨_, run_beginRound hl (by rw [hrc]), wpIn_mono (hbody _ pre x _ (put hI _ hi hl) (put hGd (s := (pre, x)) _ hgd hl)) ?_⟩)⟩
    obtain ⟨X2, hX2⟩ : ∃ X2, X.putObj (B + 1) (.loop { rc .ready none with state := .busy }) = X2 := ⟨_, rfl⟩
    rw [hX2]
    have hl2 : X2.heap[B + 1]? = some (.loop { rc .ready none with state := .busy }) := by rw [← hX2]; exact World.putObj_heap_same hlt
    have hd2 : X2.heap[B]? = some (.deferred (some [])) := by rw [← hX2]; exact (World.putObj_heap_other (by omega)).trans hd
    have kp2 : KpR R X X2 := by rw [← hX2]; exact KpR.put X _ _ (fun h => by have := hRl _ h; omega)
    have last : ∀ (j : Option Code) (X3 : World), KeepsFrom B X2 X3 → (Instr.endRound (B + 1) j).run P X3 = .ok (.bool j.isNone) (X3.putObj (B + 1) (.loop (rc (if j.isNone then .ready else .done) j))) ∧ X3.heap[B + 1]? = some (.loop { rc .ready none with state := .busy }) ∧ (X3.putObj (B + 1) (.loop (rc (if j.isNone then .ready else .done) j))).heap[B + 1]? = some (.loop (rc (if j.isNone then .ready else .done) j)) ∧ (X3.putObj (B + 1) (.loop (rc (if j.isNone then .ready else .done) j))).heap[B]? = some (.deferred (some [])) := fun j X3 hk => by
      have hl3 := hk.same _ _ (by omega) hl2 rfl
      have hr := run_endRound (P := P) j hl3
      rw [hrc] at hr hl3 ⊢
      exact ⟨hr, hl3, World.putObj_heap_same (Array.getElem?_eq_some_iff.1 hl3).1, (World.putObj_heap_other (by omega)).trans (hk.same _ _ (Nat.le_refl _) hd2 rfl)⟩
    rintro e a3 X3 hp
    cases e with
    | normal =>
      obtain ⟨hk, kp3, hi3⟩ := hp
      obtain ⟨hr, hl3, hl4, hd4⟩ := last none X3 hk
      exact ⟨_, _, hr, .inl ⟨rfl, ⟨put hI _ hi3 hl3, hl4, hd4⟩, (kp2.trans kp3).trans (KpR.put X3 _ _ (fun h => by have := hRl _ h; omega))⟩⟩
    | ret =>
      obtain ⟨hr, hl3, hl4, hd4⟩ := last (some .ret) X3 hp.1
      exact ⟨_, _, hr, .inr ⟨rfl, .ret, put (hIx _) _ hp.2 hl3, hl4, hd4⟩⟩
    | exit id =>
      obtain ⟨hr, hl3, hl4, hd4⟩ := last (some (.exit id)) X3 hp.1
      exact ⟨_, _, hr, .inr ⟨rfl, .exit id, put (hIx _) _ hp.2 hl3, hl4, hd4⟩⟩
    | goto t =>
      obtain ⟨hr, hl3, hl4, hd4⟩ := last (some (.goto t)) X3 hp.1
      exact ⟨_, _, hr, .inr ⟨rfl, .goto t, put (hIx _) _ hp.2 hl3, hl4, hd4⟩⟩
    | panic ch => exact hp.elim
    | outgrown => exact hp.elim
  · rintro e X2 ⟨⟨v, rfl⟩, pre, c, hi, hl, hd⟩
    refine ⟨some c, X2.putObj (B + 1) (.loop { rc .done (some c) with state := .exhausted }), ?_, hstop _ c pre _ (Nat.le_refl _) (put (hIx c) _ hi hl) ((World.putObj_heap_other (by omega)).trans hd)⟩
    have := run_endLoop (P := P) hl (by rw [hrc]; simp)
    rw [hrc] at this ⊢
    exact this

end Go.Proofs.YtmfjhgjplmpecaaDoor

namespace Go.Proofs.YtmfjhgjplmpecaaDoor
open Go.RowKit Go.Shelf
set_option maxRecDepth 100000

/-- A number's four bytes (below 65536). -/
def be4 (k : Nat) : List Nat := [0, 0, k / 256, k % 256]
theorem be4_byt {k : Nat} (h : k < 65536) : Byt (be4 k) := fun x hx => by
  simp only [be4, List.mem_cons, List.not_mem_nil, or_false] at hx
  omega
def pieceN (h : Nat) (seed : List Nat) (k : Nat) : List Nat := mHash h (seed ++ be4 k)
theorem Reads.same {q : IntKind} {w w' : World} {B : Nat} {a : Option Addr} {n c : Nat} {l : List Nat} (h : Reads q w a n c l) (hb : ∀ k, k < B → w'.heap[k]? = w.heap[k]?) (hs : w.heap.size ≤ w'.heap.size) (ha : 0 < n → ∀ x, a = some x → x.block < B) : Reads q w' a n c l :=
  ⟨h.length, h.le, h.max, h.nil, fun hp => by
    obtain ⟨b, off, rfl, hlt, hc⟩ := h.cells hp
    exact ⟨b, off, rfl, Nat.lt_of_lt_of_le hlt hs, fun i hi => (World.cell?_of_block (a := ⟨b, off + i, .none⟩) (hb b (ha hp _ rfl))).trans (hc i hi)⟩⟩
theorem Kinds.same {w w' : World} (h : Kinds w) (hb : w'.heap[0]? = w.heap[0]?) : Kinds w' := fun i hi => (World.cell?_of_block (a := ⟨0, i, none⟩) hb).trans (h i hi)

theorem pieces_m (w : World) (h : Int) (a : Option Addr) (n c : Nat) : Calls Tryd.prog 30 #[.int .i64 h, .slice a n c] w fun e w' => e = .returned (.func (.func 44) #[] #[.pointer (some ⟨w.heap.size, 0, none⟩), .pointer (some ⟨w.heap.size + 1, 0, none⟩)]) ∧ w' = (w.alloc (.cells #[.int .i64 h] 28)).alloc (.cells #[.slice a n c] 23) := by
  go_enter Tryd.func30, Tryd.ntmps30
  go_wp2
  go_ret
  exact ⟨rfl, rfl⟩

def sdR (a : Option Addr) (ls cs : Nat) (seed : List Nat) (s k : Nat) : Nat → Option Addr × Nat × Nat × List Nat
  | 0 => (a, ls, cs, seed)
  | _ => (some ⟨s, 0, none⟩, 4, 4, be4 k)
def GdP (h : Nat) (seed : List Nat) (pre : List (Addr × Nat)) (x : Addr × Nat) (X : World) : Prop := Reads .u8 X (some x.1) (mSize h) x.2 (pieceN h seed pre.length)
set_option maxHeartbeats 4000000 in
theorem pieces_come_m (n : Nat) (hn : 1 ≤ n) (h : Nat) (hh : IsHash h) (a : Option Addr) (ls cs : Nat) (seed : List Nat) (N B bh bs : Nat) (hN : N ≤ 60000) (w : World) (hk : Kinds w) (hGB : 0 < B) (hr : Reads .u8 w a ls cs seed) (hsb : Byt seed) (hls : ls ≤ 1048000) (hab : 0 < ls → ∀ x, a = some x → x.block < B)
    (hbh : Boxed w bh 28 (.int .i64 (h : Int))) (hbs : Boxed w bs 23 (.slice a ls cs)) (hBw : B ≤ w.heap.size) :
    SeqM (fun k => k < B ∨ k = bh ∨ k = bs) Fence.wide n Tryd.prog 44 #[.pointer (some ⟨bh, 0, none⟩), .pointer (some ⟨bs, 0, none⟩)] (fun x : Addr × Nat => #[.slice (some x.1) (mSize h) x.2]) (GdP h seed) N w := fun lp J Jx W hbel hJ hJx hJN hY h0 => by
  have HJ := Lib.hid hJ
  have HJN := Lib.hid hJN
  have HH := Lib.hid hh
  have HY := Lib.hid hY
  have HJ0 := Lib.hid h0
  have HKW := Lib.hid (hk.below hbel)
  have HRW := Lib.hid (hr.below hbel)
  have HBH := Lib.hid (show Boxed W bh 28 (.int .i64 (h : Int)) from (hbel.block bh hbh.lt).trans hbh)
  have HBS := Lib.hid (show Boxed W bs 23 (.slice a ls cs) from (hbel.block bs hbs.lt).trans hbs)
  have HSB := Lib.hid hsb
  have HAB := Lib.hid hab
  have hBW : B ≤ W.heap.size := Nat.le_trans hBw hbel.size
  have hhW : bh < W.heap.size := HBH.out.lt
  have hsW : bs < W.heap.size := HBS.out.lt
  have hh4 := isHash_lt hh
  have HKP := Lib.hid (KpR.refl (fun k => k < B ∨ k = bh ∨ k = bs) W)
  clear hJ hJN hh hY h0 hk hr hbh hbs hsb hab hbel
  refine callsIn_of_wp Tryd.func44 rfl trivial ?_ rfl
  simp only [Tryd.ntmps44, List.size_toArray, List.length_cons, List.length_nil, Nat.reduceAdd, Nat.reduceSub, Array.replicate_succ, Array.replicate_zero, List.push_toArray, List.append_toArray, List.nil_append, List.cons_append]
  gi_wp2_with fail
  gi_loopw [4] (fun nv wr => ∃ k : Nat, nv = .int .u32 (k : Int) ∧ Hid (∃ pre, pre.length = k ∧ J pre wr ∧ KpR (fun k => k < B ∨ k = bh ∨ k = bs) W wr)) (fun nv _ => N - (intOf nv).toNat)
  case atStart => exact ⟨0, rfl, [], rfl, HJ0.out, HKP.out⟩
  case round =>
    obtain ⟨k, rfl, hI⟩ := hrel
    obtain ⟨pre, hpl, hj, hkp⟩ := hI.out
    have hkN : k < N := by rw [← hpl]; exact HJN.out _ _ hj
    have HJ1 := Lib.hid hj
    have HP1 := Lib.hid hkp
    have HPL := Lib.hid hpl
    have BH := (show Boxed wr bh 28 (.int .i64 (h : Int)) from (hkp.2 bh (.inr (.inl rfl))).trans HBH.out)
    have BS := (show Boxed wr bs 23 (.slice a ls cs) from (hkp.2 bs (.inr (.inr rfl))).trans HBS.out)
    have HKR := Lib.hid (HKW.out.same (hkp.2 _ (.inl hGB)))
    have HRR := Lib.hid (HRW.out.same (B := B) (fun z hz => hkp.2 z (.inl hz)) hkp.1 HAB.out)
    have cH := BH.cell
    have cS := BS.cell
    have s24 : (k : Int) / 16777216 = 0 := by omega
    have s16 : (k : Int) / 65536 = 0 := by omega
    obtain ⟨q, hq⟩ : ∃ q, q = k / 256 := ⟨_, rfl⟩
    obtain ⟨r, hr⟩ : ∃ r, r = k % 256 := ⟨_, rfl⟩
    have s8 : (k : Int) / 256 = (q : Int) := by omega
    have hq256 : q < 256 := by omega
    have w8 : IntKind.u8.wrap (q : Int) = (q : Int) := by rw [IntKind.wrap_u8]; omega
    have w0 : IntKind.u8.wrap (k : Int) = (r : Int) := by rw [IntKind.wrap_u8]; omega
    have HBE := Lib.hid (show be4 k = [0, 0, q, r] by rw [hq, hr]; rfl)
    clear hI hpl hj hkp BH BS hq hr
    have hN2 : k < 65536 := by omega
    have HRW2 := Lib.hid (show ∀ z, z < 2 → Reads .u8 (wr.alloc (.cells #[.int .u8 0, .int .u8 0, .int .u8 (q : Int), .int .u8 (r : Int)] 5)) (sdR a ls cs seed wr.heap.size k z).1 (sdR a ls cs seed wr.heap.size k z).2.1 (sdR a ls cs seed wr.heap.size k z).2.2.1 (sdR a ls cs seed wr.heap.size k z).2.2.2 ∧ Byt (sdR a ls cs seed wr.heap.size k z).2.2.2 ∧ (sdR a ls cs seed wr.heap.size k z).2.1 ≤ 1048576 from fun z hz => by
      rcases (show z = 0 ∨ z = 1 by omega) with rfl | rfl
      · exact ⟨HRR.out.below ((Below.refl _ _).alloc (Nat.le_refl _) _), HSB.out, by show ls ≤ 1048576; omega⟩
      · refine ⟨Reads.litM .u8 wr 5 (be4 k) _ 4 (by rw [HBE.out]; simp [num]) rfl (by rw [HBE.out]; unfold maxLen; simp), be4_byt hN2, (by decide : 4 ≤ 1048576)⟩)
    gi_wp2_with fail
    refine ⟨trivial, ?_⟩
    have hrows := rows_alloc (E := 23) (wr.alloc (.cells #[.int .u8 0, .int .u8 0, .int .u8 (q : Int), .int .u8 (r : Int)] 5)) (wr.alloc (.cells #[.int .u8 0, .int .u8 0, .int .u8 (q : Int), .int .u8 (r : Int)] 5)) #[.slice a ls cs, .slice (some ⟨wr.heap.size, 0, none⟩) 4 4] 2 (sdR a ls cs seed wr.heap.size k) (Below.refl _ _) HRW2.out (fun z hz => by rcases (show z = 0 ∨ z = 1 by omega) with rfl | rfl <;> rfl)
    rw [World.size_alloc] at hrows
    refine (callsIn_wide.2 (sum_yes h HH.out (some ⟨wr.heap.size + 1, 0, none⟩) 2 2 (sdR a ls cs seed wr.heap.size k) _ (HKR.out.below (((Below.refl _ _).alloc (Nat.le_refl _) _).alloc (by simp) _)) hrows (by decide))).mono ?_
    rintro e w1 ⟨⟨ad, c, rfl, h1, h2⟩, h3⟩
    have hb1 : Below wr.heap.size wr w1 := (((Below.refl wr.heap.size wr).alloc (Nat.le_refl _) _).alloc (by simp) _).trans (h3.mono (by simp; omega))
    have J1 := HJ.out _ _ _ HJ1.out (grown_below hb1 none)
    have hgd : GdP h seed pre (ad, c) w1 := by
      show Reads .u8 w1 (some ad) (mSize h) c (mHash h (seed ++ be4 pre.length))
      rw [HPL.out]
      exact h1
    have HP2 := Lib.hid (HP1.out.trans (KpR.grown (R := fun k => k < B ∨ k = bh ∨ k = bs) (grown_below hb1 none) (fun z hz => by have := HP1.out.1; rcases hz with hz | rfl | rfl <;> omega) (fun r e => by cases e)))
    obtain ⟨fn, tmps, assign, body, hy, hR⟩ := HY.out pre (ad, c) w1 J1 hgd
    have HR := Lib.hid hR
    clear hrows h1 h2 h3 hb1 J1 hgd hR cH cS
    gi_wp2_with fail
    refine HR.out.mono ?_
    rintro e W3 (⟨rfl, hJ3, hk3⟩ | ⟨rfl, hx3⟩)
    · have J3 := Lib.hid hJ3
      have HP3 := Lib.hid (HP2.out.trans hk3)
      clear hJ3 hk3
      gi_wp2
      go_roundw
      case rel => exact ⟨k + 1, by go_num, pre ++ [(ad, c)], by rw [List.length_append, HPL.out]; rfl, J3.out, HP3.out⟩
      case measure => simp [intOf]; omega
    · have HX3 := Lib.hid hx3
      clear hx3
      gi_wp2
      refine bodyPost_ret (results_none rfl _ _ _) rfl ?_
      exact ⟨⟨_, rfl⟩, _, HX3.out⟩

end Go.Proofs.YtmfjhgjplmpecaaDoor

namespace Go.Proofs.YtmfjhgjplmpecaaDoor
open Go.RowKit Go.Shelf
set_option maxRecDepth 100000
attribute [local go_sem] Oper.semAt_some

/-- The first pieces; a mask. -/
def maskAll (h : Nat) (seed : List Nat) : Nat → List Nat
  | 0 => []
  | k + 1 => maskAll h seed k ++ pieceN h seed k
def maskN (h : Nat) (seed : List Nat) (size : Nat) : List Nat := (maskAll h seed size).take size
theorem mHash_len {h : Nat} (hh : IsHash h) (m : List Nat) : (mHash h m).length = mSize h := by
  rcases hh with rfl | rfl | rfl | rfl
  · exact hashN_len m (.inl rfl)
  · exact hashN_len m (.inr rfl)
  · exact L5.hashN_len m (.inl rfl)
  · exact L5.hashN_len m (.inr rfl)
theorem maskAll_len {h : Nat} (hh : IsHash h) (seed : List Nat) (k : Nat) : (maskAll h seed k).length = k * mSize h := by
  induction k with
  | zero => simp [maskAll]
  | succ k ih => rw [maskAll, List.length_append, ih, pieceN, mHash_len hh, Nat.succ_mul]
theorem maskAll_byt {h : Nat} (hh : IsHash h) (seed : List Nat) (k : Nat) : Byt (maskAll h seed k) := by
  induction k with
  | zero => intro x hx; cases hx
  | succ k ih => exact fun x hx => (List.mem_append.1 hx).elim (ih x) (mHash_byt hh _ x)
theorem maskAll_pre (h : Nat) (seed : List Nat) {k m : Nat} (hkm : k ≤ m) : ∃ t, maskAll h seed m = maskAll h seed k ++ t := by
  induction m with
  | zero => exact ⟨[], by rw [show k = 0 by omega, List.append_nil]⟩
  | succ m ih =>
    rcases Nat.lt_or_ge m k with hlt | hge
    · exact ⟨[], by rw [show k = m + 1 by omega, List.append_nil]⟩
    · obtain ⟨t, ht⟩ := ih hge
      exact ⟨t ++ pieceN h seed m, by rw [maskAll, ht, List.append_assoc]⟩
theorem maskAll_take {h : Nat} (hh : IsHash h) (seed : List Nat) {k m s : Nat} (hk : s ≤ k * mSize h) (hm : s ≤ m * mSize h) : (maskAll h seed k).take s = (maskAll h seed m).take s := by
  rcases Nat.le_total k m with h1 | h1
  · obtain ⟨t, ht⟩ := maskAll_pre h seed h1
    rw [ht, List.take_append_of_le_length (by rw [maskAll_len hh]; exact hk)]
  · obtain ⟨t, ht⟩ := maskAll_pre h seed h1
    rw [ht, List.take_append_of_le_length (by rw [maskAll_len hh]; exact hm)]
/-- The last piece fills the mask up. -/
theorem mask_fill {h : Nat} (hh : IsHash h) (seed : List Nat) {k s : Nat} (hk : k * mSize h ≤ s) (hs : s ≤ k * mSize h + mSize h) : maskAll h seed k ++ (pieceN h seed k).take (s - k * mSize h) = maskN h seed s := by
  have h28 := (mSize_le hh).1
  have e : maskN h seed s = (maskAll h seed (k + 1)).take s := by
    refine maskAll_take hh seed ?_ (by rw [Nat.succ_mul]; omega)
    exact Nat.le_mul_of_pos_right s (by omega)
  rw [e, maskAll, List.take_append, maskAll_len hh]
  congr 1
  exact (List.take_of_length_le (by rw [maskAll_len hh]; exact hk)).symm

theorem OwnQ.keptW {q : IntKind} {E : TypeId} {B : Nat} {W W' : World} {v : Value} {l : List Nat} {row : Option Nat} (h : OwnQ q E B W v l) (hg : W.grownBy W' row) (hr : ∀ r, row = some r → ∃ o : Obj, W.heap[r]? = some o ∧ o.isCells = false) : OwnQ q E B W' v l := by
  obtain ⟨h1, h2⟩ := h
  refine ⟨h1, ?_⟩
  rcases h2 with h2 | ⟨g', cap', cur, e, hB, hh, r⟩
  · exact .inl h2
  · exact .inr ⟨g', cap', cur, e, hB, (hg.block g' (Array.getElem?_eq_some_iff.1 hh).1 (fun hc => by
      obtain ⟨o, ho, hoc⟩ := hr g' hc.symm
      rw [hh] at ho
      cases ho
      cases hoc)).trans hh, r⟩
theorem Reads.keptW {q : IntKind} {W W' : World} {a : Option Addr} {n c : Nat} {l : List Nat} {row : Option Nat} (h : Reads q W a n c l) (hg : W.grownBy W' row) (hr : ∀ r, row = some r → ∃ o : Obj, W.heap[r]? = some o ∧ o.isCells = false) : Reads q W' a n c l :=
  ⟨h.length, h.le, h.max, h.nil, fun hp => by
    obtain ⟨b, off, rfl, hlt, hc⟩ := h.cells hp
    refine ⟨b, off, rfl, Nat.lt_of_lt_of_le hlt hg.size, fun i hi => (World.cell?_of_block (a := ⟨b, off + i, .none⟩) (hg.block b hlt (fun e => ?_))).trans (hc i hi)⟩
    obtain ⟨o, ho, hoc⟩ := hr b e.symm
    have h0 := hc 0 hp
    cases o with
    | cells _ _ _ => cases hoc
    | _ => simp [World.cell?, show W.heap[b]? = _ from ho] at h0⟩
theorem appendedM {q : IntKind} {E n₀ : Nat} {W w1 : World} {v : Value} {l : List Nat} (hrow : OwnQ q E n₀ W v l) (hn₀ : n₀ ≤ W.heap.size) (hgrow : W.grownBy w1 v.ownBlock) :
    KeepsOthers W w1 ∧ (∀ w0, Below n₀ w0 W → Below n₀ w0 w1) ∧ (∀ b t u, Boxed W b t u → v.ownBlock ≠ some b → Boxed w1 b t u) := by
  refine ⟨?_, ?_, fun b t u hb hne => hb.kept hgrow (fun e => hne e.symm)⟩
  · refine KeepsOthers.of_grownBy hgrow fun j o ej hj => ?_
    rcases hrow.2 with ⟨rfl, _⟩ | ⟨g, cap, cur, rfl, _, hgb, _⟩
    · simp [Value.ownBlock] at ej
    · obtain rfl : g = j := by simpa [Value.ownBlock] using ej
      rw [hgb] at hj; cases hj; rfl
  · intro w0 h0
    refine h0.grown hgrow hn₀ fun j ej => ?_
    rcases hrow.2 with ⟨rfl, _⟩ | ⟨g, cap, cur, rfl, hb, _, _⟩
    · simp [Value.ownBlock] at ej
    · obtain rfl : g = j := by simpa [Value.ownBlock] using ej
      exact hb
theorem ownBase {q : IntKind} {E B : Nat} {W : World} {v : Value} {l : List Nat} (h : OwnQ q E B W v l) {b : Nat} (hb : v.ownBlock = some b) : B ≤ b ∧ b < W.heap.size := by
  rcases h.2 with ⟨rfl, _⟩ | ⟨g, cap, cur, rfl, hB, hgb, _⟩
  · simp [Value.ownBlock] at hb
  · obtain rfl : g = b := by simpa [Value.ownBlock] using hb
    exact ⟨hB, (Array.getElem?_eq_some_iff.1 hgb).1⟩
theorem own_sets {q : IntKind} {E B b i : Nat} {W : World} {v u : Value} {l : List Nat} (h : OwnQ q E B W v l) (hne : v.ownBlock ≠ some b) : OwnQ q E B (W.setCell ⟨b, i, none⟩ u) v l := by
  obtain ⟨h1, h2⟩ := h
  refine ⟨h1, ?_⟩
  rcases h2 with h2 | ⟨g', cap', cur, rfl, hB, hh, r⟩
  · exact .inl h2
  · exact .inr ⟨g', cap', cur, rfl, hB, (Below.heap_setCell W ⟨b, i, none⟩ u g' (fun e => hne (by rw [show g' = b from e]; rfl))).trans hh, r⟩

theorem own_ne_box {q : IntKind} {E B b t : Nat} {W : World} {v u : Value} {l : List Nat} (h : OwnQ q E B W v l) (hb : Boxed W b t u) (hne : t ≠ E) : v.ownBlock ≠ some b := by
  rcases h.2 with ⟨rfl, _⟩ | ⟨g, cap, cur, rfl, _, hgb, _⟩
  · simp [Value.ownBlock]
  · intro e
    obtain rfl : g = b := by simpa [Value.ownBlock] using e
    rw [show W.heap[g]? = _ from hb] at hgb
    simp only [Option.some.injEq, Obj.cells.injEq] at hgb
    exact hne hgb.2.1
theorem step_append_M {P : Program} (q : IntKind) (w : World) {o : Oper} {a : Act} {K : Act → World → Prop} {Q : Exit → Act → World → Prop} (s x : Operand) (t : TypeId)
    (ho : o.op = .call { callee := .builtin .append, args := #[s, x], argTypes := #[t, t] })
    (B E by' : Nat) (i : TypeInfo) (ht : P.underlying t = some (.slice E)) (hi : P.info? E = some i) (hz : i.zero = some (.int q 0)) (hsize : i.size = 1) (hby : i.bytes = by') (hby8 : by' ≤ 8)
    (v : Value) (l : List Nat) (hs : a.eval s = v) (hown : OwnQ q E B w v l) (ad : Addr) (m c : Nat) (l2 : List Nat) (hx : a.eval x = .slice (some ad) m c) (hb : Reads q w (some ad) m c l2)
    (hsum : l.length + m ≤ 17592186044416) (hbase : B ≤ w.heap.size)
    (h : ∀ v' w', OwnQ q E B w' v' (l ++ l2) → w.grownBy w' v.ownBlock → K (a.put o.dst v') w') : o.wp P a w K Q := by
  have hlen := hb.length
  have hbb : (l.length + m) * by' ≤ 140737488355328 := Nat.le_trans (Nat.mul_le_mul hsum hby8) (by decide)
  refine wp_append_own w s x t ho B E i (.int q 0) 1 by' ht hi hz hsize hby rfl (by decide) v l.length (l.map (num q)) hs hown ad m c (l2.map (num q)) hx (by simpa using hlen) hb.news (nums_oneCell _ _) (by unfold maxLen; omega) hbb hbase ?_
  intro v' w' ho' hg _
  refine h v' w' ?_ hg
  unfold OwnQ
  rw [List.map_append, List.length_append, hlen]
  exact ho'

/-- Between two pieces; where Mask stops. -/
def MkI (h : Nat) (seed : List Nat) (size bz bM bH : Nat) (w : World) (pre : List (Addr × Nat)) (W : World) : Prop := ∃ v, Boxed W bM 23 v ∧ OwnQ .u8 5 bz W v (maskAll h seed pre.length) ∧ Boxed W bz 3 (.int .i64 (size : Int)) ∧ pre.length * mSize h ≤ size ∧ Below bz w W ∧ (v.ownBlock ≠ some bM ∧ v.ownBlock ≠ some bH ∧ v.ownBlock ≠ some (bH + 1) ∧ v.ownBlock ≠ some bz) ∧ bH + 2 ≤ W.heap.size
def MkX (h : Nat) (seed : List Nat) (size bz bM : Nat) (w : World) (W : World) : Prop := ∃ v, Boxed W bM 23 v ∧ OwnQ .u8 5 bz W v (maskN h seed size) ∧ Below bz w W

set_option maxHeartbeats 4000000 in
theorem mask_yes (h : Nat) (hh : IsHash h) (a : Option Addr) (ls cs : Nat) (seed : List Nat) (size : Nat) (w : World) (hk : Kinds w) (hr : Reads .u8 w a ls cs seed) (hsb : Byt seed) (hls : ls ≤ 1048000) (hs : size ≤ 50000) :
    Calls Tryd.prog 12 #[.int .i64 (h : Int), .slice a ls cs, .int .i64 (size : Int)] w fun e w' => (∃ v, e = .returned (.tuple #[v, .int .i64 0]) ∧ OwnQ .u8 5 w.heap.size w' v (maskN h seed size)) ∧ Below w.heap.size w w' := by
  obtain ⟨i0, hi, hz0, hz1, hz2⟩ := info_parts infoMk
  have HR := Lib.hid hr
  have HSB := Lib.hid hsb
  have HK := Lib.hid hk
  have HH := Lib.hid hh
  have hh4 := isHash_lt hh
  have h0w := hk.lt
  have hab := Lib.hid (show 0 < ls → ∀ x, a = some x → x.block < w.heap.size from fun hp x e => by
    obtain ⟨b, off, e2, hlt, -⟩ := hr.cells hp
    rw [e2] at e
    cases e
    exact hlt)
  have d1 : decide ((size : Int) < 0) = false := by simp
  have d2 : decide ((65536 : Int) < (size : Int)) = false := by simp; omega
  have BZ0 := Lib.hid (Boxed.new w 3 (.int .i64 (size : Int)))
  have HB0 := Lib.hid ((Below.refl w.heap.size w).alloc (Nat.le_refl _) (.cells #[.int .i64 (size : Int)] 3))
  have cZ0 := BZ0.out.cell
  clear hr hsb hk hh
  refine (callsIn_wide (n := 3)).1 ?_
  refine callsIn_of_wp_marks Tryd.func12 rfl trivial ?_ rfl
  simp only [Tryd.ntmps12, List.size_toArray, List.length_cons, List.length_nil, Nat.reduceAdd, Nat.reduceSub, Array.replicate_succ, Array.replicate_zero, List.push_toArray, List.append_toArray, List.nil_append, List.cons_append]
  refine wpIn_wide.2 ?_
  go_wp2_with fail
  refine wp_scope_straight ?_
  go_wp2_with fail
  generalize w.alloc (.cells #[.int .i64 (size : Int)] 3) = w0 at *
  obtain ⟨bz, hbz⟩ : ∃ b, b = w.heap.size := ⟨_, rfl⟩
  rw [← hbz] at BZ0 HB0 h0w hab ⊢
  have HBS := Lib.hid hbz.symm
  clear hbz
  refine (known_yesM h HH.out w0 (HK.out.below (by rw [HBS.out]; exact HB0.out))).mono ?_
  rintro e w1 ⟨rfl, h1⟩
  have BZ1 := Lib.hid (show Boxed w1 bz 3 (.int .i64 (size : Int)) from (h1.block bz BZ0.out.lt).trans BZ0.out)
  have HB1 := Lib.hid (HB0.out.trans (h1.mono (by have := HB0.out.size; rw [HBS.out] at this; exact this)))
  have BZ2 := Lib.hid (BZ1.out.alloc (.cells #[.string (strOf (mName h)), .int .i64 (mSize h : Int), .int .u8 (mMark h : Int)] 54))
  have cZ2 := BZ2.out.cell
  have hz1w : bz ≤ w1.heap.size := by have := HB1.out.size; rw [HBS.out] at this; exact this
  unfold kindV
  clear h1 cZ0
  go_wp2_with (at_make; refine wpList_make_lcM .u8 _ rfl _ _ 23 rfl bz 5 i0 Tryd.underlying23 hi hz0 hz1 _ _ _ _ 0 size rfl rfl rfl rfl (Nat.zero_le _) (by rw [hz2]; omega) (by unfold maxLen; omega) (by simp; omega) ?_; intro w2 hown hgrow; rw [World.size_alloc] at hown; have HO2 := Lib.hid hown; have hgl := (World.ownsRow.lt hown (w1.heap.size + 1) rfl).2; have HB2 := Lib.hid ((HB1.out.alloc hz1w _).grown hgrow (by simp; omega) (fun r e => by cases e)); have BZ3 := Lib.hid (Boxed.kept BZ2.out hgrow (fun e => by cases e)); clear hown hgrow)
  have hbz1 : bz < w1.heap.size := BZ1.out.lt
  have BM3 := Lib.hid (Boxed.new w2 23 (.slice (some ⟨w1.heap.size + 1, 0, none⟩) 0 size))
  have HO3 := Lib.hid (HO2.out.alloc (.cells #[.slice (some ⟨w1.heap.size + 1, 0, none⟩) 0 size] 23))
  have BZ4 := Lib.hid (BZ3.out.alloc (.cells #[.slice (some ⟨w1.heap.size + 1, 0, none⟩) 0 size] 23))
  have HB3 := Lib.hid (HB2.out.alloc (by omega) (.cells #[.slice (some ⟨w1.heap.size + 1, 0, none⟩) 0 size] 23))
  have hz3 : (w2.alloc (.cells #[.slice (some ⟨w1.heap.size + 1, 0, none⟩) 0 size] 23)).heap.size = w2.heap.size + 1 := by simp
  clear cZ2
  generalize w2.alloc (.cells #[.slice (some ⟨w1.heap.size + 1, 0, none⟩) 0 size] 23) = w3 at *
  obtain ⟨gm, hgm⟩ : ∃ g, g = w1.heap.size + 1 := ⟨_, rfl⟩
  obtain ⟨bM, hbM⟩ : ∃ b, b = w2.heap.size := ⟨_, rfl⟩
  rw [← hgm] at BM3 HO3 hgl ⊢
  rw [← hbM] at BM3 hz3 hgl ⊢
  have HZ3 := Lib.hid hz3
  have HGM := Lib.hid hgm
  have HBMq := Lib.hid hbM
  have hz3b : bz ≤ w3.heap.size := by omega
  clear hz3 hgm hbM
  refine (wpIn_wide (n := 3)).1 ?_
  refine wpIn_label ?_
  go_wp2_with fail
  refine (pieces_m w3 h a ls cs).mono ?_
  rintro e w4 ⟨rfl, rfl⟩
  go_wp2_with fail
  refine (wpIn_wide (n := 3)).1 ?_
  have BM5 := (BM3.out.alloc (.cells #[.int .i64 (h : Int)] 28)).alloc (.cells #[.slice a ls cs] 23)
  have BZ5 := (BZ4.out.alloc (.cells #[.int .i64 (h : Int)] 28)).alloc (.cells #[.slice a ls cs] 23)
  have HO5 := (HO3.out.alloc (.cells #[.int .i64 (h : Int)] 28)).alloc (.cells #[.slice a ls cs] 23)
  have HB5 := (HB3.out.alloc hz3b (.cells #[.int .i64 (h : Int)] 28)).alloc (by simp; omega) (.cells #[.slice a ls cs] 23)
  have bH5 := (Boxed.new w3 28 (.int .i64 (h : Int))).alloc (.cells #[.slice a ls cs] 23)
  have bS5 := Boxed.new (w3.alloc (.cells #[.int .i64 (h : Int)] 28)) 23 (.slice a ls cs)
  rw [World.size_alloc] at bS5
  have hz5 : ((w3.alloc (.cells #[.int .i64 (h : Int)] 28)).alloc (.cells #[.slice a ls cs] 23)).heap.size = w3.heap.size + 2 := by simp
  generalize (w3.alloc (.cells #[.int .i64 (h : Int)] 28)).alloc (.cells #[.slice a ls cs] 23) = w5 at *
  obtain ⟨bH, hbH⟩ : ∃ b, b = w3.heap.size := ⟨_, rfl⟩
  have hz3 := HZ3.out
  rw [← hbH] at bH5 bS5 hz5 ⊢
  have hgm := HGM.out
  have hbM := HBMq.out
  have hord : Hid (bz < gm ∧ gm < bM ∧ bM < bH ∧ w5.heap.size = bH + 2) := ⟨by omega, by omega, by omega, by omega⟩
  have hz5b : bz ≤ w5.heap.size := by omega
  have hz5c : bH + 2 ≤ w5.heap.size := by omega
  clear hgm hbM hbH hz3 hz5
  have K5 := Lib.hid (HK.out.below (by rw [HBS.out]; exact HB5))
  have R5 := Lib.hid (HR.out.below (by rw [HBS.out]; exact HB5))
  refine wpIn_rangeM (F := Fence.wide) (R := fun k => k < bz ∨ k = bH ∨ k = bH + 1) rfl (show 1 ≤ 3 by decide) (gf := 44) (lb := #[.pointer (some ⟨bH, 0, none⟩), .pointer (some ⟨bH + 1, 0, none⟩)]) rfl trivial (enters_of Tryd.func44 (by kernel_rfl) rfl)
    (pieces_come_m (3 - 1) (by decide) h HH.out a ls cs seed (size + 1) bz bH (bH + 1) (by omega) w5 K5.out h0w R5.out HSB.out hls hab.out bH5 bS5 hz5b) (fun k hk => by have := hord.out; rcases hk with hk | rfl | rfl <;> omega) (Below.refl _ _) (fun _ => rfl)
    (fun pre W => MkI h seed size bz bM bH w pre W)
    (fun cc pre W => cc = .exit 0 ∧ MkX h seed size bz bM w W)
    ?_ ?_ ?_ ?_ ⟨_, BM5, HO5, BZ5, by simp, HB5, ⟨by simp [Value.ownBlock]; have := hord.out; omega, by simp [Value.ownBlock]; have := hord.out; omega, by simp [Value.ownBlock]; have := hord.out; omega, by simp [Value.ownBlock]; have := hord.out; omega⟩, hz5c⟩ ?_ ?_ ?_ ?_
  rotate_left 5
  · intro lp x W K hK
    gi_wp2
    exact hK
  · rintro lp pre x W ⟨v, hbM', hown, hbZ, hle, hB, ⟨n1, n2, n3, n4⟩, hsz⟩ hG
    obtain ⟨va, vn, vc, rfl, hvn, hown⟩ := own_slM hown
    rw [maskAll_len HH.out] at hvn
    have HVN := Lib.hid (show vn = (maskAll h seed pre.length).length by rw [maskAll_len HH.out]; exact hvn)
    have HVK := Lib.hid hvn
    have cM := hbM'.cell
    have fM := hbM'.frozen
    have cZ := hbZ.cell
    have HBM := Lib.hid hbM'
    have HBZ := Lib.hid hbZ
    have HOW := Lib.hid hown
    have HBW := Lib.hid hB
    have HNE := Lib.hid (show (Value.slice va vn vc).ownBlock ≠ some bM ∧ (Value.slice va vn vc).ownBlock ≠ some bH ∧ (Value.slice va vn vc).ownBlock ≠ some (bH + 1) ∧ (Value.slice va vn vc).ownBlock ≠ some bz from ⟨n1, n2, n3, n4⟩)
    have HG := Lib.hid hG
    have hbW : bz ≤ W.heap.size := by have := hord.out; omega
    have hszb := mSize_le HH.out
    obtain ⟨sz, hsze⟩ : ∃ s, s = mSize h := ⟨_, rfl⟩
    rw [← hsze] at hszb hle hvn ⊢
    have HSZ := Lib.hid hsze
    have HLE := Lib.hid hle
    have hvs : vn ≤ size := by omega
    obtain ⟨L, hL⟩ : ∃ L, L = size - vn := ⟨_, rfl⟩
    have hLi : (size : Int) - (vn : Int) = (L : Int) := by omega
    have HL := Lib.hid hL
    have hLs : L ≤ size := by omega
    clear hbM' hown hbZ hle hB n1 n2 n3 n4 hG hvn hL hsze
    have HPC := Lib.hid (mHash_len HH.out (seed ++ be4 pre.length))
    by_cases hc : sz < L
    · have t1 : decide ((sz : Int) < (L : Int)) = true := by simp; omega
      have HC := Lib.hid hc
      clear hc
      gi_wp2_with (gi_at_builtin; go_loud (refine wpListIn_append_own_at _ rfl _ _ 23 rfl bz 5 i0 (.int .u8 0) 1 1 Tryd.underlying23 hi hz0 hz1 hz2 rfl (by decide) (.slice va vn vc) vn ((maskAll h seed pre.length).map (num .u8)) rfl (by have h1 := HOW.out; unfold OwnQ at h1; rwa [← HVN.out] at h1) x.1 sz x.2 ((pieceN h seed pre.length).map (num .u8)) rfl (by rw [List.length_map, show (pieceN h seed pre.length).length = mSize h from HPC.out, ← HSZ.out, Nat.mul_one]) (by have h1 := HG.out; unfold GdP at h1; rw [← HSZ.out] at h1; exact h1.news) (nums_oneCell _ _) (by unfold maxLen; omega) (by omega) hbW ?_); intro v' w' ho' hgrow _ hblk; obtain ⟨a', n', c', rfl, -, ho2⟩ := own_slM (q := .u8) (E := 5) (B := bz) (w := w') (v := v') (l := maskAll h seed pre.length ++ pieceN h seed pre.length) (by unfold OwnQ; rw [List.map_append, List.length_append, ← HVN.out, show (pieceN h seed pre.length).length = mSize h from HPC.out, ← HSZ.out]; exact ho'); have HO2 := Lib.hid ho2; have HA := Lib.hid (appendedM HOW.out hbW hgrow); have HBM' := Lib.hid (HA.out.2.2 bM _ _ HBM.out HNE.out.1); have cM' := (HA.out.2.2 _ _ _ HBM.out HNE.out.1).cell; have fM' := (HA.out.2.2 _ _ _ HBM.out HNE.out.1).frozen; have HGR := Lib.hid hgrow; have HBL := Lib.hid hblk; clear ho' hgrow hblk ho2)
      have hne' := own_ne_box HO2.out HBM'.out (by decide)
      have hKO : KeepsOthers W (w'.setCell ⟨bM, 0, none⟩ (.slice a' n' c')) := HA.out.1.trans (KeepsOthers.setCell _ _ _)
      have hbm := hord.out
      have hnew : ∀ b, b < W.heap.size → (Value.slice va vn vc).ownBlock ≠ some b → (Value.slice a' n' c').ownBlock ≠ some b := fun b hb h1 e => by
        rcases HBL.out with h2 | h2
        · rw [h2] at e; exact h1 e
        · rw [h2] at e; have := Option.some.inj e; omega
      refine ⟨hKO.from _, ⟨hKO.size, fun k hk => ?_⟩, ⟨_, HBM'.out.set _, ?_, ?_, ?_, ?_, ⟨hne', hnew bH (by omega) HNE.out.2.1, hnew (bH + 1) (by omega) HNE.out.2.2.1, hnew bz (by omega) HNE.out.2.2.2⟩, Nat.le_trans hsz hKO.size⟩⟩
      · have hkW : k < W.heap.size := by rcases hk with hk | rfl | rfl <;> omega
        have hkM : k ≠ bM := by rcases hk with hk | rfl | rfl <;> omega
        have hko : (Value.slice va vn vc).ownBlock ≠ some k := by
          rcases hk with hk | rfl | rfl
          · intro e
            have := (ownBase HOW.out e).1
            omega
          · exact HNE.out.2.1
          · exact HNE.out.2.2.1
        exact (Below.heap_setCell w' ⟨bM, 0, none⟩ _ k hkM).trans (HGR.out.block k hkW (fun e => hko e.symm))
      · rw [List.length_append]
        exact own_sets (i := 0) (u := .slice a' n' c') HO2.out hne'
      · exact (HA.out.2.2 bz _ _ HBZ.out HNE.out.2.2.2).other' (g := bM) (i := 0) (by omega) _
      · have e1 := HVK.out
        have e2 := HL.out
        have e3 := HC.out
        rw [← HSZ.out] at e1 ⊢
        rw [List.length_append, List.length_singleton, Nat.succ_mul]
        omega
      · exact (HA.out.2.1 w HBW.out).setCell (p := ⟨bM, 0, none⟩) (by show bz ≤ bM; omega) _
    · have t1 : decide ((sz : Int) < (L : Int)) = false := by simp; omega
      have HC := Lib.hid hc
      have hLz : L ≤ sz := by omega
      clear hc
      have hs1 : ∀ w, (sizeOf (Tryd.prog.elem 23)).run Tryd.prog w = .ok 1 w := fun _ => by kernel_rfl
      have hxc : sz ≤ x.2 := by have h1 := HG.out.le; rw [← HSZ.out] at h1; exact h1
      have sl : ∀ W, (Instr.sliceAt 23 (.slice (some x.1) sz x.2) none (some (.int .i64 (L : Int))) none).run Tryd.prog W = .ok (.slice (some x.1) L x.2) W := fun W => by
        rw [run_sliceAt_slice W _ _ _ _ _ (by kernel_rfl), run_slice_h W _ (some x.1) sz x.2 (by kernel_rfl) .i64 (L : Int) (by omega) (by omega), hs1]
        simp [sliced, Result.andThen, Addr.add]
      have HGL := Lib.hid (show Reads .u8 W (some x.1) L x.2 ((pieceN h seed pre.length).take L) by have h1 := HG.out; unfold GdP at h1; rw [← HSZ.out] at h1; exact h1.upto L hLz)
      clear hs1
      gi_wp2_with fail
      refine wpIn_region_held_drew (S := fun _ => True) (by kernel_rfl) (plain_of (by kernel_rfl)) ?_ trivial (fun hHeld => ?_)
      · rintro ⟨a, w, h⟩
        exact h
      refine' wpAnyH_take (i := 1) (oi := _) (v := _) rfl (by kernel_rfl) (by kernel_rfl) (by kernel_rfl) (fun _ _ _ h => h) (Or.inl ⟨?_, ?_⟩) (by assumption) ?_
      rotate_left
      all_goals (try simp only [List.getElem_toArray, List.getElem_cons_succ, List.getElem_cons_zero])
      · rfl
      · intro W hSw; (try dsimp only at hSw); go_simp; (try with_reducible rfl)
      try simp only [Act.put, List.setIfInBounds_toArray, List.set_cons_zero, List.set_cons_succ]
      refine' wpAnyH_take (i := 2) (oi := _) (v := _) rfl (by kernel_rfl) (by kernel_rfl) (by kernel_rfl) (fun _ _ _ h => h) (Or.inl ⟨?_, ?_⟩) (by assumption) ?_
      rotate_left
      all_goals (try simp only [List.getElem_toArray, List.getElem_cons_succ, List.getElem_cons_zero])
      · rfl
      · intro W hSw; (try dsimp only at hSw); go_simp; (try with_reducible rfl)
      try simp only [Act.put, List.setIfInBounds_toArray, List.set_cons_zero, List.set_cons_succ]
      refine' wpAnyH_take (i := 3) (oi := _) (v := .slice (some x.1) L x.2) rfl (by kernel_rfl) (by kernel_rfl) (by kernel_rfl) (fun _ _ _ h => h) (Or.inl ⟨?_, ?_⟩) (by assumption) ?_
      all_goals (try simp only [List.getElem_toArray, List.getElem_cons_succ, List.getElem_cons_zero])
      · rfl
      · intro W hSw; (try dsimp only at hSw); go_simp; (first | done | exact sl W)
      try simp only [Act.put, List.setIfInBounds_toArray, List.set_cons_zero, List.set_cons_succ]
      refine wpAnyH_ready (rs := [0]) (by kernel_rfl) (by simp) ?_
      refine AllReadyH.cons (o := _) rfl (fun K hK => ?_) AllReadyH.nil
      try simp only [List.getElem_toArray, List.getElem_cons_succ, List.getElem_cons_zero]
      go_simp
      refine hK.out _ _ trivial (fun hHeld => ?_)
      clear hK K
      try simp only [Act.put, List.setIfInBounds_toArray, List.set_cons_zero, List.set_cons_succ]
      refine wpAnyH_ready (rs := [4]) (by kernel_rfl) (by simp) ?_
      refine AllReadyH.cons (o := _) rfl (fun K hK => ?_) AllReadyH.nil
      try simp only [List.getElem_toArray, List.getElem_cons_succ, List.getElem_cons_zero]
      rw [if_pos (by rfl)]
      refine step_append_M .u8 _ (.tmp 36) (.tmp 39) 23 rfl bz 5 1 i0 Tryd.underlying23 hi hz0 hz1 hz2 (by decide) _ (maskAll h seed pre.length) rfl HOW.out.drew x.1 L x.2 ((pieceN h seed pre.length).take L) rfl (HGL.out.below (Below.refl _ _).drew) (by rw [← HVN.out]; omega) hbW ?_
      intro v' w' ho' hgrow
      obtain ⟨a', n', c', rfl, -, ho'⟩ := own_slM ho'
      have HA := Lib.hid (appendedM HOW.out.drew hbW hgrow)
      have HBM' := Lib.hid (HA.out.2.2 bM _ _ HBM.out HNE.out.1)
      have cM' := HBM'.out.cell
      have fM' := HBM'.out.frozen
      have HO' := Lib.hid ho'
      clear ho' hgrow
      refine hK.out _ _ trivial (fun hHeld => ?_)
      clear hK K
      try simp only [Act.put, List.setIfInBounds_toArray, List.set_cons_zero, List.set_cons_succ]
      refine wpAnyH_ready (rs := [5]) (by kernel_rfl) (by simp) ?_
      refine AllReadyH.cons (o := _) rfl (fun K hK => ?_) AllReadyH.nil
      try simp only [List.getElem_toArray, List.getElem_cons_succ, List.getElem_cons_zero]
      go_simp
      refine hK.out _ _ trivial (fun hHeld => ?_)
      clear hK K
      try simp only [Act.put, List.setIfInBounds_toArray, List.set_cons_zero, List.set_cons_succ]
      refine wpAnyH_done (by kernel_rfl) ?_ _
      simp only [Exit.then]
      gi_wp2_with fail
      have hne' := own_ne_box HO'.out HBM'.out (by decide)
      have hKO : KeepsOthers W (w'.setCell ⟨bM, 0, none⟩ (.slice a' n' c')) := (KeepsOthers.drew W).trans (HA.out.1.trans (KeepsOthers.setCell _ _ _))
      refine ⟨hKO.from _, rfl, _, HBM'.out.set _, ?_, ?_⟩
      · have h1 := own_sets (i := 0) (u := .slice a' n' c') HO'.out hne'
        have h2 := mask_fill HH.out seed (k := pre.length) (s := size) (by rw [← HSZ.out]; exact HLE.out) (by have e1 := HVK.out; have e2 := HL.out; rw [← HSZ.out] at e1 ⊢; omega)
        rw [← h2, ← HVK.out, ← HL.out]
        exact h1
      · exact (HA.out.2.1 w (HBW.out.drew)).setCell (p := ⟨bM, 0, none⟩) (by have := hord.out; show bz ≤ bM; omega) _
  · rintro D cc pre W hD ⟨rfl, v, hbM', hown, hB⟩ hK
    obtain ⟨va, vn, vc, rfl, -, hown⟩ := own_slM hown
    have cM := hbM'.cell
    have HO := Lib.hid hown
    have HBW := Lib.hid hB
    have HDb := Lib.hid (show bz ≤ D by omega)
    clear hown hB
    gi_wp2_with fail
    go_wp2
    rw [Exit.noGoto_ret]
    refine ⟨by simp, .inl ⟨_, _, rfl, run_takeDeferred hK, ?_⟩⟩
    have hgr := grownBy_putObj' W D (.deferred none)
    refine ⟨_, results_tmp2 rfl _ _ _, ⟨_, rfl, ?_⟩, ?_⟩
    · rw [HBS.out]
      exact HO.out.keptW hgr (fun r e => by cases e; exact ⟨_, hK, rfl⟩)
    · rw [HBS.out]
      exact HBW.out.grown hgr (Nat.le_trans HDb.out (Nat.le_of_lt (Array.getElem?_eq_some_iff.1 hK).1)) (fun r e => by cases e; exact HDb.out)
  · rintro pre W W' row ⟨v, h1, h2, h3, h4, h5, h6, h7⟩ hg hr
    have hne : ∀ b, b < w5.heap.size → some b ≠ row := fun b hb e => by have := (hr b e.symm).1; omega
    have hbm := hord.out
    exact ⟨v, h1.kept hg (hne bM (by omega)), h2.keptW hg (fun r e => (hr r e).2), h3.kept hg (hne bz (by omega)), h4, h5.grown hg (by omega) (fun r e => by have := (hr r e).1; omega), h6, Nat.le_trans h7 hg.size⟩
  · rintro cc pre W W' row ⟨h0, v, h1, h2, h3⟩ hg hr
    have hne : ∀ b, b < w5.heap.size → some b ≠ row := fun b hb e => by have := (hr b e.symm).1; omega
    have hbm := hord.out
    exact ⟨h0, v, h1.kept hg (hne bM (by omega)), h2.keptW hg (fun r e => (hr r e).2), h3.grown hg (by have := h1.lt; omega) (fun r e => by have := (hr r e).1; omega)⟩
  · rintro s W W' row h1 hg hr
    exact Reads.keptW h1 hg (fun r e => (hr r e).2)
  · rintro pre W ⟨v, h1, h2, h3, h4, h5, h6, h7⟩
    have := (mSize_le HH.out).1
    have h8 : pre.length * 1 ≤ pre.length * mSize h := Nat.mul_le_mul_left _ (by omega)
    omega

end Go.Proofs.YtmfjhgjplmpecaaDoor

namespace Go.Proofs.YtmfjhgjplmpecaaDoor
open Go.RowKit
set_option maxRecDepth 100000

instance isHashDecR (h : Nat) : Decidable (IsHash h) := by unfold IsHash; infer_instance
def rSize (h : Int) : Int := if IsHash h.toNat then (mSize h.toNat : Int) else 0
theorem rSize_yes {h : Nat} (hh : IsHash h) : rSize (h : Int) = (mSize h : Int) := by simp [rSize, hh]
theorem rSize_no {h : Int} (hh : ¬ IsHash h.toNat) : rSize h = 0 := by unfold rSize; rw [if_neg hh]
theorem isHash_int (h : Int) : (h = 1 ∨ h = 2 ∨ h = 3 ∨ h = 4) ∨ ¬ IsHash h.toNat ∧ h ≠ 1 ∧ h ≠ 2 ∧ h ≠ 3 ∧ h ≠ 4 := by
  unfold IsHash
  omega
theorem rsize_any (h : Int) (w : World) : Calls Tryd.prog 16 #[.int .i64 h] w fun e w' => e = .returned (.int .i64 (rSize h)) ∧ w = w' := by
  rcases isHash_int h with (rfl | rfl | rfl | rfl) | ⟨hn, h1, h2, h3, h4⟩
  · rw [show rSize 1 = 28 by decide]
    go_enter Tryd.func16, Tryd.ntmps16
    go_wp2
    go_ret
    exact ⟨rfl, rfl⟩
  · rw [show rSize 2 = 32 by decide]
    go_enter Tryd.func16, Tryd.ntmps16
    go_wp2
    go_ret
    exact ⟨rfl, rfl⟩
  · rw [show rSize 3 = 48 by decide]
    go_enter Tryd.func16, Tryd.ntmps16
    go_wp2
    go_ret
    exact ⟨rfl, rfl⟩
  · rw [show rSize 4 = 64 by decide]
    go_enter Tryd.func16, Tryd.ntmps16
    go_wp2
    go_ret
    exact ⟨rfl, rfl⟩
  · rw [rSize_no hn]
    have t1 : (h == 1) = false := by simpa using h1
    have t2 : (h == 2) = false := by simpa using h2
    have t3 : (h == 3) = false := by simpa using h3
    have t4 : (h == 4) = false := by simpa using h4
    clear hn h1 h2 h3 h4
    go_enter Tryd.func16, Tryd.ntmps16
    go_wp2
    go_ret
    exact ⟨rfl, rfl⟩
end Go.Proofs.YtmfjhgjplmpecaaDoor

namespace Go.Proofs.YtmfjhgjplmpecaaDoor

/-- Numbers compared by computation. -/
def eqM : List Nat → List Nat → Bool
  | [], [] => true
  | x :: l, y :: m => Nat.beq x y && eqM l m
  | _, _ => false
theorem eq_of_eqM : ∀ {l m : List Nat}, eqM l m = true → l = m
  | [], [], _ => rfl
  | [], _ :: _, h => by cases h
  | _ :: _, [], h => by cases h
  | x :: l, y :: m, h => by
    simp only [eqM, Bool.and_eq_true] at h
    rw [Nat.eq_of_beq_eq_true h.1, eq_of_eqM h.2]

/-- A root's bits, the highest one first: i bits are still to be tried. -/
def rootB (x k : Nat) : Nat → Nat → Nat
  | 0, r => r
  | i + 1, r => rootB x k i (if Nat.ble ((r + 2 ^ i) ^ k) x then r + 2 ^ i else r)
/-- The bits behind the point of the k-th root. -/
def fracB (n k bits : Nat) : Nat := rootB (n * 2 ^ (k * bits)) k (bits + 6) 0 % 2 ^ bits
def primes64 : List Nat := [2,3,5,7,11,13,17,19,23,29,31,37,41,43,47,53,59,61,67,71,73,79,83,89,97,101,103,107,109,113,127,131,137,139,149,151,157,163,167,173,179,181,191,193,197,199,211,223,227,229,233,239,241,251,257,263,269,271,277,281,283,293,307,311]
theorem fracs3 : primes64.map (fun p => fracB p 3 32) = [1116352408, 1899447441, 3049323471, 3921009573, 961987163, 1508970993, 2453635748, 2870763221, 3624381080, 310598401, 607225278, 1426881987, 1925078388, 2162078206, 2614888103, 3248222580, 3835390401, 4022224774, 264347078, 604807628, 770255983, 1249150122, 1555081692, 1996064986, 2554220882, 2821834349, 2952996808, 3210313671, 3336571891, 3584528711, 113926993, 338241895, 666307205, 773529912, 1294757372, 1396182291, 1695183700, 1986661051, 2177026350, 2456956037, 2730485921, 2820302411, 3259730800, 3345764771, 3516065817, 3600352804, 4094571909, 275423344, 430227734, 506948616, 659060556, 883997877, 958139571, 1322822218, 1537002063, 1747873779, 1955562222, 2024104815, 2227730452, 2361852424, 2428436474, 2756734187, 3204031479, 3329325298] := eq_of_eqM (by kernel_rfl)
theorem fracs2 : (primes64.take 8).map (fun p => fracB p 2 32) = [1779033703, 3144134277, 1013904242, 2773480762, 1359893119, 2600822924, 528734635, 1541459225] := eq_of_eqM (by kernel_rfl)
theorem fracs2b : ((primes64.drop 8).take 8).map (fun p => fracB p 2 64 % 4294967296) = [3238371032, 914150663, 812702999, 4144912697, 4290775857, 1750603025, 1694076839, 3204075428] := eq_of_eqM (by kernel_rfl)

/-- Rotated right by halves. -/
def halfs (x : Nat) : Nat → Nat
  | 0 => x
  | n + 1 => halfs x n / 2 + halfs x n % 2 * 2147483648
theorem halfs_eq (x : Nat) (hx : x < 4294967296) : ∀ n, n ≤ 31 → halfs x n = x % 2 ^ n * 2 ^ (32 - n) + x / 2 ^ n
  | 0, _ => by simp [halfs, Nat.mod_one]
  | n + 1, h => by
    have ih := halfs_eq x hx n (by omega)
    have e1 : 32 - n = (31 - n) + 1 := by omega
    have e2 : 32 - (n + 1) = 31 - n := by omega
    rw [halfs, ih, e1, e2]
    obtain ⟨q, hq⟩ : ∃ q, q = x / 2 ^ n := ⟨_, rfl⟩
    obtain ⟨m, hm⟩ : ∃ m, m = x % 2 ^ n := ⟨_, rfl⟩
    have hd : x / 2 ^ (n + 1) = q / 2 := by rw [hq, Nat.pow_succ, Nat.div_div_eq_div_mul]
    have hmod : x % 2 ^ (n + 1) = m + 2 ^ n * (q % 2) := by rw [hm, hq, Nat.pow_succ, Nat.mod_mul]
    rw [hd, hmod, ← hq, ← hm]
    have hp : 2 ^ n * 2 ^ (31 - n) = 2147483648 := by rw [← Nat.pow_add, show n + (31 - n) = 31 by omega]
    obtain ⟨t, ht⟩ : ∃ t, t = m * 2 ^ (31 - n) := ⟨_, rfl⟩
    have e3 : m * 2 ^ (31 - n + 1) = 2 * t := by rw [ht, Nat.pow_succ, ← Nat.mul_assoc, Nat.mul_comm]
    have e4 : (m + 2 ^ n * (q % 2)) * 2 ^ (31 - n) = t + 2147483648 * (q % 2) := by
      rw [Nat.add_mul, ← ht, Nat.mul_right_comm, hp]
    rw [e3, e4]
    omega
theorem halfs_rot (x a : Nat) (hx : x < 4294967296) (ha : a ≤ 31) : halfs x a = (x * 2 ^ (32 - a) % 4294967296 ||| x / 2 ^ a) := by
  rw [halfs_eq x hx a ha]
  have hp : (4294967296 : Nat) = 2 ^ a * 2 ^ (32 - a) := by rw [← Nat.pow_add, show a + (32 - a) = 32 by omega]
  have e1 : x * 2 ^ (32 - a) % 4294967296 = x % 2 ^ a * 2 ^ (32 - a) := by rw [hp, Nat.mul_mod_mul_right]
  have hlt : x / 2 ^ a < 2 ^ (32 - a) := by
    rw [Nat.div_lt_iff_lt_mul (Nat.two_pow_pos a), Nat.mul_comm, ← hp]
    exact hx
  rw [e1, Nat.mul_comm, ← Nat.two_pow_add_eq_or_of_lt hlt]
/-- 'or' where the program has 'xor'. -/
theorem ch_eq (e f g : Nat) (he : e < 4294967296) : ((e &&& f) ||| ((4294967295 - e) &&& g)) = ((e &&& f) ^^^ ((4294967295 - e) &&& g)) := by
  apply Nat.eq_of_testBit_eq
  intro i
  have h : (4294967295 - e).testBit i = (decide (i < 32) && !e.testBit i) := by
    have := Nat.testBit_two_pow_sub_succ (n := 32) (x := e) he i
    simpa using this
  simp only [Nat.testBit_or, Nat.testBit_xor, Nat.testBit_and, h]
  cases e.testBit i <;> cases f.testBit i <;> cases g.testBit i <;> cases decide (i < 32) <;> rfl
theorem maj_eq (a b c : Nat) : ((a &&& b) ||| (a &&& c) ||| (b &&& c)) = ((a &&& b) ^^^ (a &&& c) ^^^ (b &&& c)) := by
  apply Nat.eq_of_testBit_eq
  intro i
  simp only [Nat.testBit_or, Nat.testBit_xor, Nat.testBit_and]
  cases a.testBit i <;> cases b.testBit i <;> cases c.testBit i <;> rfl

end Go.Proofs.YtmfjhgjplmpecaaDoor

namespace Go.Proofs.YtmfjhgjplmpecaaDoor
open Go.RowKit Go.Shelf
attribute [local go_sem] Oper.semAt_some

/-- A state that nobody made. -/
def Unmade (w : World) (v : Value) : Prop := v = .pointer none ∨ ∃ z, v = .pointer (some ⟨z, 0, none⟩) ∧ w.cell? ⟨z, 0, none⟩ = some (.int .i64 0) ∧ z < w.heap.size
theorem Unmade.below {w w' : World} {v : Value} (h : Unmade w v) (hb : Below w.heap.size w w') : Unmade w' v := by
  rcases h with h | ⟨z, h, h1, h2⟩
  · exact .inl h
  · exact .inr ⟨z, h, (World.cell?_of_block (hb.block z h2)).trans h1, Nat.lt_of_lt_of_le h2 hb.size⟩
theorem made_no (v : Value) (w : World) (h : Unmade w v) : Calls Tryd.prog 48 #[v] w fun e w' => e = .returned (.bool false) ∧ w = w' := by
  rcases h with rfl | ⟨z, rfl, h0, -⟩
  · go_enter Tryd.func48, Tryd.ntmps48
    go_wp2
    go_ret
    exact ⟨rfl, rfl⟩
  · go_enter Tryd.func48, Tryd.ntmps48
    go_wp2
    go_ret
    exact ⟨rfl, rfl⟩
theorem copy_no (v : Value) (w : World) (h : Unmade w v) : Calls Tryd.prog 51 #[v] w fun e w' => e = .returned (.pointer none) ∧ w = w' := by
  go_enter Tryd.func51, Tryd.ntmps51
  go_wp2_with fail
  refine (made_no v w h).mono ?_
  rintro e w1 ⟨rfl, rfl⟩
  go_wp2
  go_ret
  exact ⟨rfl, rfl⟩
theorem sum_no (v : Value) (w : World) (h : Unmade w v) : Calls Tryd.prog 33 #[v] w fun e w' => e = .returned (.slice none 0 0) ∧ w = w' := by
  have HRES := Lib.hid (show Tryd.f33.results = #[.tmp 2] by kernel_rfl)
  refine (callsIn_wide (n := 3)).1 ?_
  refine callsIn_of_wp_marks Tryd.func33 rfl trivial ?_ rfl
  simp only [Tryd.ntmps33, List.size_toArray, List.length_cons, List.length_nil, Nat.reduceAdd, Nat.reduceSub, Array.replicate_succ, Array.replicate_zero, List.push_toArray, List.append_toArray, List.nil_append, List.cons_append]
  refine wpIn_wide.2 ?_
  go_wp2_with fail
  refine (made_no v w h).mono ?_
  rintro e w1 ⟨rfl, rfl⟩
  go_wp2
  exact ⟨_, results_tmp HRES.out _ _ _, rfl, rfl⟩
theorem write_no (v : Value) (a : Option Addr) (n c : Nat) (w : World) (h : Unmade w v) : Calls Tryd.prog 32 #[v, .slice a n c] w fun e w' => e = .returned (.tuple #[]) ∧ Below w.heap.size w w' := by
  have HRES := Lib.hid (show Tryd.f32.results = #[] by kernel_rfl)
  have HU := Lib.hid h
  have cS := (Boxed.new w 63 v).cell
  have hb := Lib.hid ((Below.refl w.heap.size w).alloc (Nat.le_refl _) (.cells #[v] 63))
  refine (callsIn_wide (n := 3)).1 ?_
  refine callsIn_of_wp_marks Tryd.func32 rfl trivial ?_ rfl
  simp only [Tryd.ntmps32, List.size_toArray, List.length_cons, List.length_nil, Nat.reduceAdd, Nat.reduceSub, Array.replicate_succ, Array.replicate_zero, List.push_toArray, List.append_toArray, List.nil_append, List.cons_append]
  refine wpIn_wide.2 ?_
  obtain ⟨pv, rfl⟩ : ∃ p, v = .pointer p := by
    rcases h with rfl | ⟨z, rfl, -, -⟩ <;> exact ⟨_, rfl⟩
  clear h
  go_wp2_with fail
  refine wp_scope_straight ?_
  go_wp2_with fail
  generalize w.alloc (.cells #[.pointer pv] 63) = w1 at *
  refine (made_no _ w1 (HU.out.below hb.out)).mono ?_
  rintro e w2 ⟨rfl, rfl⟩
  go_wp2
  rw [Exit.noGoto_ret]
  exact ⟨_, results_none HRES.out _ _ _, rfl, hb.out⟩

end Go.Proofs.YtmfjhgjplmpecaaDoor

namespace Go.Proofs.YtmfjhgjplmpecaaDoor
open Go.RowKit Go.Shelf

theorem StateOf.lt {w : World} {g bt : Nat} {m : List Nat} (h : StateOf w g bt m) : g < w.heap.size := by
  obtain ⟨ws, tail, h, -⟩ := h
  exact h.lt
theorem StateOf.below {w w' : World} {g bt B : Nat} {m : List Nat} (h : StateOf w g bt m) (hb : Below B w w') (hg : g < B) : StateOf w' g bt m := by
  obtain ⟨ws, tail, h, k⟩ := h
  exact ⟨ws, tail, h.below hb hg, k⟩
theorem reads_block {q : IntKind} {w : World} {a : Option Addr} {n c : Nat} {l : List Nat} (h : Reads q w a n c l) {g : Nat} (hg : w.heap.size ≤ g) : 0 < n → ∀ ad, a = some ad → ad.block ≠ g := fun hp ad e => by
  subst e
  obtain ⟨b, off, e, hlt, -⟩ := h.cells hp
  cases e
  show b ≠ g
  omega
theorem Reads.from' {q : IntKind} {w : World} {a : Option Addr} {len cap : Nat} {l : List Nat} (h : Reads q w a len cap l) (k : Nat) (hk : k ≤ len) : Reads q w (if cap = k then a else a.map (·.add k)) (len - k) (cap - k) (l.drop k) := by
  have := h.sub k len hk (Nat.le_refl _)
  rwa [List.take_of_length_le (by rw [h.length]; exact Nat.le_refl _)] at this
theorem below_on {w x y : World} (h : Below w.heap.size w x) (k : Below x.heap.size x y) : Below w.heap.size w y := h.trans (k.mono h.size)
theorem byt_drop {l : List Nat} (h : Byt l) (k : Nat) : Byt (l.drop k) := fun x hx => h x (List.mem_of_mem_drop hx)
theorem byt_take {l : List Nat} (h : Byt l) (k : Nat) : Byt (l.take k) := fun x hx => h x (List.mem_of_mem_take hx)

end Go.Proofs.YtmfjhgjplmpecaaDoor

namespace Go.Proofs.YtmfjhgjplmpecaaDoor
open Go.RowKit Go.Shelf

def btOf (long : Bool) : Nat := if long then 256 else 224
theorem btOf_or (long : Bool) : btOf long = 224 ∨ btOf long = 256 := by cases long <;> decide
theorem btOf_ne (long : Bool) : btOf long ≠ 0 := by cases long <;> decide
/-- Two states, in one world. -/
structure Two (w0 W : World) (g1 g2 bt : Nat) (l m : List Nat) : Prop where
  one : StateOf W g1 bt l
  two : StateOf W g2 bt m
  below : Below w0.heap.size w0 W
theorem Two.on {w0 W W' : World} {g1 g2 bt : Nat} {l m : List Nat} (h : Two w0 W g1 g2 bt l m) (hb : Below W.heap.size W W') : Two w0 W' g1 g2 bt l m :=
  ⟨h.one.below hb h.one.lt, h.two.below hb h.two.lt, below_on h.below hb⟩
theorem Two.drew {w0 W : World} {g1 g2 bt : Nat} {l m : List Nat} (h : Two w0 W g1 g2 bt l m) : Two w0 W.drew g1 g2 bt l m := h.on (Below.refl _ _).drew
theorem StateOf.kept {W W' : World} {g1 g2 bt : Nat} {l : List Nat} (h : StateOf W g1 bt l) (hg : W.grownBy W' (some g2)) (hne : g1 ≠ g2) : StateOf W' g1 bt l := by
  obtain ⟨ws, tail, h, k⟩ := h
  exact ⟨ws, tail, h.block (hg.block g1 h.lt (fun e => hne (Option.some.inj e))), k⟩
theorem Two.write2 {w0 W : World} {g1 g2 bt : Nat} {l m : List Nat} (h : Two w0 W g1 g2 bt l m) (hne : g1 ≠ g2) (hg : w0.heap.size ≤ g2) (hbt : bt ≠ 0) (a : Option Addr) (n c : Nat) (bl : List Nat) (hr : Reads .u8 W a n c bl) (hb : Byt bl) (hln : m.length + n < 1152921504606846976) (hn : 0 < n → ∀ ad, a = some ad → ad.block ≠ g2) :
    Calls Tryd.prog 32 #[.pointer (some ⟨g2, 0, none⟩), .slice a n c] W fun e W' => e = .returned (.tuple #[]) ∧ Two w0 W' g1 g2 bt l (m ++ bl) ∧ W.grownBy W' (some g2) :=
  (write_any g2 bt m bl a n c W h.two hbt hr hb hln hn).mono fun _ _ ⟨h1, h2, h3⟩ => ⟨h1, ⟨h.one.kept h3 hne, h2, h.below.grown h3 h.below.size (fun _ e => by cases e; exact hg)⟩, h3⟩
theorem Two.write1 {w0 W : World} {g1 g2 bt : Nat} {l m : List Nat} (h : Two w0 W g1 g2 bt l m) (hne : g1 ≠ g2) (hg : w0.heap.size ≤ g1) (hbt : bt ≠ 0) (a : Option Addr) (n c : Nat) (bl : List Nat) (hr : Reads .u8 W a n c bl) (hb : Byt bl) (hln : l.length + n < 1152921504606846976) (hn : 0 < n → ∀ ad, a = some ad → ad.block ≠ g1) :
    Calls Tryd.prog 32 #[.pointer (some ⟨g1, 0, none⟩), .slice a n c] W fun e W' => e = .returned (.tuple #[]) ∧ Two w0 W' g1 g2 bt (l ++ bl) m ∧ W.grownBy W' (some g1) :=
  (write_any g1 bt l bl a n c W h.one hbt hr hb hln hn).mono fun _ _ ⟨h1, h2, h3⟩ => ⟨h1, ⟨h2, h.two.kept h3 (Ne.symm hne), h.below.grown h3 h.below.size (fun _ e => by cases e; exact hg)⟩, h3⟩
/-- A hash that Sum told: it stays, and reads as text. -/
def SumAt (w0 W : World) (ad : Addr) (bt : Nat) (l : List Nat) : Prop := Reads .u8 W (some ad) (bt / 8) (bt / 8) (hashN bt l) ∧ w0.heap.size ≤ ad.block
theorem SumAt.on {w0 W W' : World} {ad : Addr} {bt : Nat} {l : List Nat} (h : SumAt w0 W ad bt l) (hb : Below W.heap.size W W') : SumAt w0 W' ad bt l := ⟨h.1.below hb, h.2⟩
theorem SumAt.conv {w0 W : World} {ad : Addr} {bt : Nat} {l : List Nat} (h : SumAt w0 W ad bt l) : (convert 23 9 (.slice (some ad) (bt / 8) (bt / 8))).run Tryd.prog W = .ok (.string (strOf (u8s (hashN bt l)))) W := convB (h.1.bts (hashN_lt bt l))
theorem Two.sum1 {w0 W : World} {g1 g2 bt : Nat} {l m : List Nat} (h : Two w0 W g1 g2 bt l m) (hbt : bt = 224 ∨ bt = 256) :
    Calls Tryd.prog 33 #[.pointer (some ⟨g1, 0, none⟩)] W fun e W' => (∃ ad, e = .returned (.slice (some ad) (bt / 8) (bt / 8)) ∧ SumAt w0 W' ad bt l) ∧ Two w0 W' g1 g2 bt l m ∧ Below W.heap.size W W' :=
  (sum_any g1 bt l W h.one hbt).mono fun _ _ ⟨⟨ad, h1, h2, h3⟩, h4⟩ => ⟨⟨ad, h1, h2, Nat.le_trans h.below.size h3⟩, h.on h4, h4⟩
theorem Two.sum2 {w0 W : World} {g1 g2 bt : Nat} {l m : List Nat} (h : Two w0 W g1 g2 bt l m) (hbt : bt = 224 ∨ bt = 256) :
    Calls Tryd.prog 33 #[.pointer (some ⟨g2, 0, none⟩)] W fun e W' => (∃ ad, e = .returned (.slice (some ad) (bt / 8) (bt / 8)) ∧ SumAt w0 W' ad bt m) ∧ Two w0 W' g1 g2 bt l m ∧ Below W.heap.size W W' :=
  (sum_any g2 bt m W h.two hbt).mono fun _ _ ⟨⟨ad, h1, h2, h3⟩, h4⟩ => ⟨⟨ad, h1, h2, Nat.le_trans h.below.size h3⟩, h.on h4, h4⟩
theorem reads_of_bytes {w : World} {a : Option Addr} {len cap : Nat} {zs : List Int}
    (h : (a = .none ∧ len = 0 ∧ cap = 0 ∧ zs = []) ∨ ∃ x, a = some x ∧ len ≤ cap ∧ cap ≤ maxLen ∧ zs.length = cap ∧ (∀ i, i < zs.length → w.cell? (x.add i) = some (.int .u8 (zs.getD i 0))) ∧ ∀ n ∈ zs, (Lit.int .u8 n).wf = true) :
    ∃ l : List Nat, Reads .u8 w a len cap l ∧ ∀ x ∈ l, x < 256 := by
  rcases h with ⟨rfl, rfl, rfl, rfl⟩ | ⟨x, rfl, hl, hm, hz, hc, hw⟩
  · exact ⟨[], Reads.none _ w, fun _ h => by cases h⟩
  · have hbd : ∀ n ∈ zs, 0 ≤ n ∧ n < 256 := fun n hn => by
      have := hw n hn
      simp [Lit.wf, IntKind.min, IntKind.max, IntKind.signed, IntKind.bits] at this
      omega
    refine ⟨(zs.take len).map fun n => n.toNat, ⟨by simp; omega, hl, hm, (fun h => by cases h), fun hp => ?_⟩, fun y hy => ?_⟩
    · obtain ⟨b, off, spot⟩ := x
      have h0 := hc 0 (by omega)
      have hs : spot = .none := by simpa [Addr.add] using World.cell?_spot h0
      subst hs
      refine ⟨b, off, rfl, World.block_lt_of_cell? w _ (by simpa [Addr.add] using h0), fun i hi => ?_⟩
      have hci := hc i (by omega)
      have e : (⟨b, off, .none⟩ : Addr).add i = ⟨b, off + i, .none⟩ := by unfold Addr.add; split <;> simp_all
      rw [e] at hci
      rw [hci]
      have hlt : i < zs.length := by omega
      have hb := hbd zs[i] (List.getElem_mem _)
      have h1 : zs.getD i 0 = zs[i] := by simp [List.getD, hlt]
      rw [h1]
      simp [hi, hlt]
      omega
    · obtain ⟨n, hn, rfl⟩ := List.mem_map.1 hy
      have := hbd n (List.mem_of_mem_take hn)
      omega

end Go.Proofs.YtmfjhgjplmpecaaDoor

namespace Go.Proofs.YtmfjhgjplmpecaaDoor
open Go.RowKit Go.Shelf

theorem nilB : Byt [] := fun x hx => by cases hx
theorem StateOf.copy {W : World} {g bt : Nat} {l : List Nat} (h : StateOf W g bt l) (hbt : bt ≠ 0) : Calls Tryd.prog 51 #[.pointer (some ⟨g, 0, none⟩)] W fun e W' => e = .returned (.pointer (some ⟨W.heap.size, 0, none⟩)) ∧ StateOf W' W.heap.size bt l ∧ Below W.heap.size W W' := by
  obtain ⟨ws, tail, h, k⟩ := h
  refine (copy_any g bt ws tail _ W h hbt).mono ?_
  rintro e W' ⟨rfl, rfl⟩
  exact ⟨rfl, ⟨ws, tail, ⟨Go.heap_alloc_new W _, h.wlen, h.tlen, h.wlt, h.tlt⟩, k⟩, (Below.refl _ _).alloc (Nat.le_refl _) _⟩
theorem byt_app {l m : List Nat} (h : Byt l) (k : Byt m) : Byt (l ++ m) := all_lt h k
end Go.Proofs.YtmfjhgjplmpecaaDoor

namespace Go.Proofs.YtmfjhgjplmpecaaDoor
open Go.RowKit Go.Shelf

theorem halfs_lt (x : Nat) (hx : x < 4294967296) : ∀ n, halfs x n < 4294967296
  | 0 => hx
  | n + 1 => by
    have := halfs_lt x hx n
    show halfs x n / 2 + halfs x n % 2 * 2147483648 < _
    omega
theorem right_any (x n : Nat) (y k : Int) (w : World) (hy : y = x) (hk : k = n) (hx : x < 4294967296) (hn : n ≤ 31) :
    Calls Tryd.prog 40 #[.int .u32 y, .int .i64 k] w fun e w' => e = .returned (.int .u32 (halfs x n : Nat)) ∧ w = w' := by
  subst hy hk
  go_enter Tryd.func40, Tryd.ntmps40
  go_wp2_with fail
  go_loopw [0, 5] (fun xv iv wq => ∃ i v : Nat, iv = .int .i64 (i : Int) ∧ xv = .int .u32 (v : Int) ∧ i ≤ n ∧ v < 4294967296 ∧ Hid (v = halfs x i) ∧ w = wq) (fun _ iv _ => n - (intOf iv).toNat)
  case atStart => exact ⟨0, x, rfl, rfl, Nat.zero_le _, hx, rfl, rfl⟩
  case round =>
    obtain ⟨i, v, rfl, rfl, hi, hv, hI, rfl⟩ := hrel
    by_cases hlt : i < n
    · go_wp2
      go_roundw
      case rel => exact ⟨i + 1, v / 2 + v % 2 * 2147483648, by go_num, by go_num, by omega, by omega, by rw [hI.out]; rfl, trivial⟩
      case measure => simp [intOf] <;> omega
    · obtain rfl : i = n := by omega
      go_wp2
      go_ret
      exact ⟨by rw [← hI.out]; rfl, rfl⟩
def downN (x : Nat) : Nat → Nat
  | 0 => x
  | n + 1 => downN x n / 2
theorem downN_eq (x : Nat) : ∀ n, downN x n = x / 2 ^ n
  | 0 => by simp [downN]
  | n + 1 => by rw [downN, downN_eq x n, Nat.pow_succ, Nat.div_div_eq_div_mul]
theorem down_any (x n : Nat) (y k : Int) (w : World) (hy : y = x) (hk : k = n) (hx : x < 4294967296) (hn : n ≤ 31) :
    Calls Tryd.prog 41 #[.int .u32 y, .int .i64 k] w fun e w' => e = .returned (.int .u32 (x / 2 ^ n : Nat)) ∧ w = w' := by
  rw [← downN_eq]
  subst hy hk
  go_enter Tryd.func41, Tryd.ntmps41
  go_wp2_with fail
  go_loopw [0, 5] (fun xv iv wq => ∃ i v : Nat, iv = .int .i64 (i : Int) ∧ xv = .int .u32 (v : Int) ∧ i ≤ n ∧ v < 4294967296 ∧ Hid (v = downN x i) ∧ w = wq) (fun _ iv _ => n - (intOf iv).toNat)
  case atStart => exact ⟨0, x, rfl, rfl, Nat.zero_le _, hx, rfl, rfl⟩
  case round =>
    obtain ⟨i, v, rfl, rfl, hi, hv, hI, rfl⟩ := hrel
    by_cases hlt : i < n
    · go_wp2
      go_roundw
      case rel => exact ⟨i + 1, v / 2, by go_num, by go_num, by omega, by omega, by rw [hI.out]; rfl, trivial⟩
      case measure => simp [intOf] <;> omega
    · obtain rfl : i = n := by omega
      go_wp2
      go_ret
      exact ⟨by rw [← hI.out]; rfl, rfl⟩

end Go.Proofs.YtmfjhgjplmpecaaDoor

namespace Go.Proofs.YtmfjhgjplmpecaaDoor
open Go.RowKit Go.Shelf

/-- Is one wide number more than another one? -/
def moreN (a b : List Nat) : Nat → Bool
  | 0 => false
  | j + 1 => if g0 a j = g0 b j then moreN a b j else decide (g0 b j < g0 a j)
set_option maxHeartbeats 1000000 in
theorem more_any (a b : List Nat) (ha : a.length = 8) (hb : b.length = 8) (w : World) :
    Calls Tryd.prog 63 #[.agg (arrC .u64 a), .agg (arrC .u64 b)] w fun e w' => e = .returned (.bool (moreN a b 8)) ∧ Below w.heap.size w w' := by
  go_enter Tryd.func63, Tryd.ntmps63
  go_wp2_with fail
  have HA := Lib.hid (show Arr .u64 107 ((w.alloc (.cells (arrC .u64 a) 107)).alloc (.cells (arrC .u64 b) 107)) w.heap.size a from Arr.alloc (Go.heap_alloc_new w _) _)
  have HB := Lib.hid (show Arr .u64 107 ((w.alloc (.cells (arrC .u64 a) 107)).alloc (.cells (arrC .u64 b) 107)) (w.heap.size + 1) b from by
    have := Go.heap_alloc_new (w.alloc (.cells (arrC .u64 a) 107)) (.cells (arrC .u64 b) 107)
    rwa [World.size_alloc] at this)
  have HW := Lib.hid (((Below.refl w.heap.size w).alloc (Nat.le_refl _) (.cells (arrC .u64 a) 107)).alloc (by simp) (.cells (arrC .u64 b) 107))
  generalize (w.alloc (.cells (arrC .u64 a) 107)).alloc (.cells (arrC .u64 b) 107) = W at *
  have HLA := Lib.hid ha
  have HLB := Lib.hid hb
  clear ha hb
  obtain ⟨g1, hg1⟩ : ∃ g, g = w.heap.size := ⟨_, rfl⟩
  obtain ⟨g2, hg2⟩ : ∃ g, g = w.heap.size + 1 := ⟨_, rfl⟩
  rw [← hg2] at HB ⊢
  rw [← hg1] at HA ⊢
  clear hg1 hg2
  go_loopw [5] (fun iv wq => ∃ j : Nat, iv = .int .i64 ((j : Int) - 1) ∧ j ≤ 8 ∧ Hid (moreN a b 8 = moreN a b j ∧ Arr .u64 107 wq g1 a ∧ Arr .u64 107 wq g2 b ∧ Below w.heap.size w wq)) (fun iv _ => (intOf iv + 1).toNat)
  case atStart => exact ⟨8, rfl, by decide, rfl, HA.out, HB.out, HW.out⟩
  case round =>
    obtain ⟨j, rfl, hj, hI⟩ := hrel
    cases j with
    | zero =>
      go_wp2
      go_ret
      exact ⟨by rw [hI.out.1]; rfl, hI.out.2.2.2⟩
    | succ j =>
      have e : (((j + 1 : Nat) : Int) - 1) = (j : Int) := by omega
      rw [e]
      clear e
      have c1 := hI.out.2.1.cell j (by rw [HLA.out]; omega)
      have c2 := hI.out.2.2.1.cell j (by rw [HLB.out]; omega)
      have HM := Lib.hid (show moreN a b (j + 1) = if g0 a j = g0 b j then moreN a b j else decide (g0 b j < g0 a j) from rfl)
      unfold g0 at HM
      generalize a[j]?.getD 0 = x at *
      generalize b[j]?.getD 0 = y at *
      by_cases hxy : x = y
      · have HXY := Lib.hid hxy
        have t1 : ((x : Int) != (y : Int)) = false := by simp; omega
        clear hxy
        go_wp2_with fail
        go_quiet (fail)
        go_wp2
        go_roundw
        case rel => exact ⟨j, rfl, by omega, by rw [hI.out.1, HM.out, if_pos HXY.out], hI.out.2.1.drewN nq, hI.out.2.2.1.drewN nq, below_drewS hI.out.2.2.2 nq⟩
        case measure => simp [intOf] <;> omega
      · have HXY := Lib.hid hxy
        have t1 : ((x : Int) != (y : Int)) = true := by simp; omega
        clear hxy
        go_wp2_with fail
        go_quiet (fail)
        go_wp2_with fail
        have c3 : (wr.drewN nq).cell? ⟨g1, j, none⟩ = some (.int .u64 (x : Int)) := c1
        have c4 : (wr.drewN nq).cell? ⟨g2, j, none⟩ = some (.int .u64 (y : Int)) := c2
        have H5 := Lib.hid (below_drewS hI.out.2.2.2 nq)
        have HE := Lib.hid (show moreN a b 8 = decide (y < x) by rw [hI.out.1, HM.out, if_neg HXY.out])
        clear c1 c2 hI HM
        generalize wr.drewN nq = w5 at *
        go_quiet (fail)
        go_wp2
        go_ret
        refine ⟨?_, below_drewS H5.out _⟩
        rw [HE.out]
        simp

end Go.Proofs.YtmfjhgjplmpecaaDoor

namespace Go.Proofs.YtmfjhgjplmpecaaDoor
open Go.RowKit Go.Shelf

/-- One step of a row's product. -/
def inS (a b : List Nat) (i : Nat) (st : List Nat × Nat) (k : Nat) : List Nat × Nat :=
  (st.1.set (i + k) ((g0 st.1 (i + k) + g0 a i * g0 b k + st.2) % 4294967296), (g0 st.1 (i + k) + g0 a i * g0 b k + st.2) / 4294967296)
def inN (a b : List Nat) (i : Nat) (out : List Nat) : Nat → List Nat × Nat
  | 0 => (out, 0)
  | k + 1 => inS a b i (inN a b i out k) k
def outN (a b : List Nat) : Nat → List Nat
  | 0 => List.replicate 8 0
  | i + 1 => (inN a b i (outN a b i) (8 - i)).1
def productN (a b : List Nat) : List Nat := outN a b 8
/-- Eight limbs. -/
def Eight (l : List Nat) : Prop := l.length = 8 ∧ ∀ x ∈ l, x < 4294967296
theorem step_lt {x y z c : Nat} (hx : x < 4294967296) (hy : y < 4294967296) (hz : z < 4294967296) (hc : c < 4294967296) : x * y ≤ 18446744065119617025 ∧ z + x * y + c < 18446744073709551616 := by
  have h : x * y ≤ 4294967295 * 4294967295 := Nat.mul_le_mul (by omega) (by omega)
  omega
theorem inS_ok {a b : List Nat} {i k : Nat} {st : List Nat × Nat} (ha : Eight a) (hb : Eight b) (h : Eight st.1) (hc : st.2 < 4294967296) : Eight (inS a b i st k).1 ∧ (inS a b i st k).2 < 4294967296 := by
  have := step_lt (g0_lt ha.2 (by decide) i) (g0_lt hb.2 (by decide) k) (g0_lt h.2 (by decide) (i + k)) hc
  refine ⟨⟨by simp [inS, h.1], set_lt h.2 _ _ (Nat.mod_lt _ (by decide))⟩, ?_⟩
  show _ / 4294967296 < 4294967296
  omega
theorem inN_ok {a b : List Nat} {i : Nat} {out : List Nat} (ha : Eight a) (hb : Eight b) (h : Eight out) : ∀ k, Eight (inN a b i out k).1 ∧ (inN a b i out k).2 < 4294967296
  | 0 => ⟨h, Nat.lt_of_lt_of_le (Nat.zero_lt_one) (by decide)⟩
  | k + 1 => inS_ok ha hb (inN_ok ha hb h k).1 (inN_ok ha hb h k).2
theorem outN_ok {a b : List Nat} (ha : Eight a) (hb : Eight b) : ∀ i, Eight (outN a b i)
  | 0 => ⟨by simp [outN], fun x hx => by have := List.eq_of_mem_replicate hx; omega⟩
  | i + 1 => (inN_ok ha hb (outN_ok ha hb i) (8 - i)).1
theorem productN_ok {a b : List Nat} (ha : Eight a) (hb : Eight b) : Eight (productN a b) := outN_ok ha hb 8
/-- What product's blocks hold. -/
structure Prd (w W : World) (h2 h3 h4 h5 : Nat) (a b out : List Nat) : Prop where
  one : Arr .u64 107 W h2 a
  two : Arr .u64 107 W h3 b
  res : Arr .u64 107 W h4 (List.replicate 8 0)
  out : Arr .u64 107 W h5 out
  below : Below w.heap.size w W
theorem Prd.drewN {w W : World} {h2 h3 h4 h5 : Nat} {a b out : List Nat} (h : Prd w W h2 h3 h4 h5 a b out) (n : Nat) : Prd w (W.drewN n) h2 h3 h4 h5 a b out := ⟨h.one, h.two, h.res, h.out, below_drewS h.below n⟩
theorem Prd.stored {w W : World} {h2 h3 h4 h5 : Nat} {a b out : List Nat} (h : Prd w W h2 h3 h4 h5 a b out) (hd : h2 ≠ h5 ∧ h3 ≠ h5 ∧ h4 ≠ h5 ∧ w.heap.size ≤ h5) (i x : Nat) (y : Int) (hy : y = (x : Int)) : Prd w (W.setCell ⟨h5, i, none⟩ (.int .u64 y)) h2 h3 h4 h5 a b (out.set i x) :=
  ⟨h.one.other _ _ hd.1, h.two.other _ _ hd.2.1, h.res.other _ _ hd.2.2.1, h.out.stored i x y hy, h.below.setCell hd.2.2.2 _⟩
theorem prd_start (a b : List Nat) (w : World) : Prd w ((((w.alloc (.cells (arrC .u64 a) 107)).alloc (.cells (arrC .u64 b) 107)).alloc (.cells (arrC .u64 [0, 0, 0, 0, 0, 0, 0, 0]) 107)).alloc (.cells (arrC .u64 [0, 0, 0, 0, 0, 0, 0, 0]) 107)) w.heap.size (w.heap.size + 1) (w.heap.size + 1 + 1) (w.heap.size + 1 + 1 + 1) a b (List.replicate 8 0) := by
  have h1 : Arr .u64 107 (w.alloc (.cells (arrC .u64 a) 107)) w.heap.size a := Go.heap_alloc_new w _
  have hb1 := (Below.refl w.heap.size w).alloc (Nat.le_refl _) (.cells (arrC .u64 a) 107)
  have s1 : (w.alloc (.cells (arrC .u64 a) 107)).heap.size = w.heap.size + 1 := World.size_alloc _ _
  generalize w.alloc (.cells (arrC .u64 a) 107) = w1 at *
  have h2 : Arr .u64 107 (w1.alloc (.cells (arrC .u64 b) 107)) (w.heap.size + 1) b := by rw [← s1]; exact Go.heap_alloc_new w1 _
  have h12 := h1.alloc (.cells (arrC .u64 b) 107)
  have hb2 := hb1.alloc (by omega) (.cells (arrC .u64 b) 107)
  have s2 : (w1.alloc (.cells (arrC .u64 b) 107)).heap.size = w.heap.size + 1 + 1 := by rw [World.size_alloc, s1]
  generalize w1.alloc (.cells (arrC .u64 b) 107) = w2 at *
  have h3 : Arr .u64 107 (w2.alloc (.cells (arrC .u64 [0, 0, 0, 0, 0, 0, 0, 0]) 107)) (w.heap.size + 1 + 1) [0, 0, 0, 0, 0, 0, 0, 0] := by rw [← s2]; exact Go.heap_alloc_new w2 _
  have h23 := h2.alloc (.cells (arrC .u64 [0, 0, 0, 0, 0, 0, 0, 0]) 107)
  have h13 := h12.alloc (.cells (arrC .u64 [0, 0, 0, 0, 0, 0, 0, 0]) 107)
  have hb3 := hb2.alloc (by omega) (.cells (arrC .u64 [0, 0, 0, 0, 0, 0, 0, 0]) 107)
  have s3 : (w2.alloc (.cells (arrC .u64 [0, 0, 0, 0, 0, 0, 0, 0]) 107)).heap.size = w.heap.size + 1 + 1 + 1 := by rw [World.size_alloc, s2]
  generalize w2.alloc (.cells (arrC .u64 [0, 0, 0, 0, 0, 0, 0, 0]) 107) = w3 at *
  refine ⟨h13.alloc _, h23.alloc _, h3.alloc _, ?_, hb3.alloc (by omega) _⟩
  rw [← s3]
  exact Go.heap_alloc_new w3 _
theorem out_ok {a b out : List Nat} {w W : World} {h2 h3 h4 h5 : Nat} (h : Prd w W h2 h3 h4 h5 a b out) (ho : Eight out) (i : Nat) (hi : i < 8) : W.cell? ⟨h5, i, none⟩ = some (.int .u64 ((g0 out i : Nat) : Int)) := h.out.cell i (by rw [ho.1]; exact hi)
set_option maxRecDepth 100000 in
set_option maxHeartbeats 2000000 in
theorem product_any (a b : List Nat) (ha : Eight a) (hb : Eight b) (w : World) :
    Calls Tryd.prog 62 #[.agg (arrC .u64 a), .agg (arrC .u64 b)] w fun e w' => e = .returned (.agg (arrC .u64 (productN a b))) ∧ Below w.heap.size w w' := by
  have hz : ∀ w, (zeroValue 107).run Tryd.prog w = .ok (.agg (arrC .u64 (List.replicate 8 0))) w := fun _ => by kernel_rfl
  have HA := Lib.hid ha
  have HB := Lib.hid hb
  clear ha hb
  go_enter Tryd.func62, Tryd.ntmps62
  go_wp2_with fail
  have HP := Lib.hid (prd_start a b w)
  generalize (((w.alloc (.cells (arrC .u64 a) 107)).alloc (.cells (arrC .u64 b) 107)).alloc (.cells (arrC .u64 [0, 0, 0, 0, 0, 0, 0, 0]) 107)).alloc (.cells (arrC .u64 [0, 0, 0, 0, 0, 0, 0, 0]) 107) = W at *
  obtain ⟨h5, e5⟩ : ∃ h, h = w.heap.size + 1 + 1 + 1 := ⟨_, rfl⟩
  obtain ⟨h4, e4⟩ : ∃ h, h = w.heap.size + 1 + 1 := ⟨_, rfl⟩
  obtain ⟨h3, e3⟩ : ∃ h, h = w.heap.size + 1 := ⟨_, rfl⟩
  obtain ⟨h2, e2⟩ : ∃ h, h = w.heap.size := ⟨_, rfl⟩
  have hd : Hid (h2 ≠ h5 ∧ h3 ≠ h5 ∧ h4 ≠ h5 ∧ w.heap.size ≤ h5) := ⟨by omega, by omega, by omega, by omega⟩
  have hd4 : Hid (w.heap.size ≤ h4) := by show _ ≤ _; omega
  rw [← e5, ← e4, ← e3] at HP ⊢
  have HP2 : Hid (Prd w W h2 h3 h4 h5 a b (List.replicate 8 0)) := by rw [e2]; exact HP
  rw [← e2]
  clear e5 e4 e3 e2 HP
  go_loopw [6] (fun iv wq => ∃ i : Nat, iv = .int .i64 (i : Int) ∧ i ≤ 8 ∧ Hid (Prd w wq h2 h3 h4 h5 a b (outN a b i))) (fun iv _ => 8 - (intOf iv).toNat)
  case atStart => exact ⟨0, rfl, by decide, HP2.out⟩
  case round =>
    obtain ⟨i, rfl, hi, hI⟩ := hrel
    rcases Nat.lt_or_ge i 8 with hlt | hge
    · have tI : decide ((i : Int) < 8) = true := by simp; omega
      go_wp2_with fail
      go_loopw [7, 8] (fun cv kv wq => ∃ k c : Nat, kv = .int .i64 (k : Int) ∧ cv = .int .u64 (c : Int) ∧ i + k ≤ 8 ∧ c < 4294967296 ∧ Hid (c = (inN a b i (outN a b i) k).2 ∧ Prd w wq h2 h3 h4 h5 a b (inN a b i (outN a b i) k).1)) (fun _ kv _ => 8 - (intOf kv).toNat)
      case atStart => exact ⟨0, 0, rfl, rfl, by omega, by decide, rfl, hI.out⟩
      case round =>
        obtain ⟨k, c, rfl, rfl, hk, hc, hJ⟩ := hrel
        have hok := inN_ok (i := i) HA.out HB.out (outN_ok HA.out HB.out i) k
        rcases Nat.lt_or_ge (i + k) 8 with hlt2 | hge2
        · have cO := out_ok hJ.out.2 hok.1 (i + k) hlt2
          have fO := hJ.out.2.out.frozen (i + k)
          have cA := hJ.out.2.one.cell i (by rw [HA.out.1]; omega)
          have cB := hJ.out.2.two.cell k (by rw [HB.out.1]; omega)
          have lx : g0 a i < 4294967296 := g0_lt HA.out.2 (by decide) i
          have ly : g0 b k < 4294967296 := g0_lt HB.out.2 (by decide) k
          have lz : g0 (inN a b i (outN a b i) k).1 (i + k) < 4294967296 := g0_lt hok.1.2 (by decide) _
          obtain ⟨z, hz1⟩ : ∃ z, z = g0 (inN a b i (outN a b i) k).1 (i + k) := ⟨_, rfl⟩
          obtain ⟨x, hx1⟩ : ∃ x, x = g0 a i := ⟨_, rfl⟩
          obtain ⟨y, hy1⟩ : ∃ y, y = g0 b k := ⟨_, rfl⟩
          change wr.cell? _ = some (.int .u64 ((g0 a i : Nat) : Int)) at cA
          change wr.cell? _ = some (.int .u64 ((g0 b k : Nat) : Int)) at cB
          rw [← hx1] at cA lx
          rw [← hy1] at cB ly
          rw [← hz1] at cO lz
          have hs := step_lt lx ly lz hc
          obtain ⟨p, hp⟩ : ∃ p, p = x * y := ⟨_, rfl⟩
          have hpi : (x : Int) * (y : Int) = (p : Int) := by rw [hp]; push_cast; rfl
          rw [← hp] at hs
          obtain ⟨hs1, hs2⟩ := hs
          have HZ := Lib.hid (show inS a b i (inN a b i (outN a b i) k) k = ((inN a b i (outN a b i) k).1.set (i + k) ((z + p + c) % 4294967296), (z + p + c) / 4294967296) by
            unfold inS
            rw [← hz1, ← hx1, ← hy1, ← hp, hJ.out.1])
          clear hp hz1 hx1 hy1 hok
          go_wp2_with fail
          have HN := Lib.hid (show inN a b i (outN a b i) (k + 1) = ((inN a b i (outN a b i) k).1.set (i + k) ((z + p + c) % 4294967296), (z + p + c) / 4294967296) from HZ.out)
          go_quiet (fail)
          go_wp2_with fail
          go_roundw
          case rel => exact ⟨k + 1, (z + p + c) / 4294967296, by go_num, by go_num, by omega, by omega, by
            rw [HN.out]
            exact ⟨rfl, (hJ.out.2.drewN nq).stored hd.out (i + k) ((z + p + c) % 4294967296) _ (by omega)⟩⟩
          case measure => simp [intOf] <;> omega
        · have hk8 : Hid (k = 8 - i) := by show k = 8 - i; omega
          go_wp2_with fail
          go_roundw
          case rel => exact ⟨i + 1, by go_num, by omega, by
            have := hJ.out.2
            rw [hk8.out] at this
            exact this⟩
          case measure => simp [intOf] <;> omega
    · obtain rfl : i = 8 := by omega
      have hO := outN_ok HA.out HB.out 8
      have hP8 := hI.out
      have HPN := Lib.hid (show productN a b = outN a b 8 from rfl)
      generalize outN a b 8 = o at *
      have hsz : (arrC .u64 o).size = 8 := by rw [arrC_size, hO.1]
      have HP8 := Lib.hid hP8
      have HSZ := Lib.hid hsz
      clear hP8 hO hI hsz
      go_wp2_with (first | (refine wpList_load_row rfl _ _ rfl h5 rfl _ (arrC .u64 o) _ _ HP8.out.out Tryd.underlying107 rfl (by rw [HSZ.out]; kernel_rfl) ?_) | (refine wpList_store_row rfl _ _ _ rfl h4 (arrC .u64 o) rfl rfl 107 _ HP8.out.res (by rw [HSZ.out]; kernel_rfl) (by rw [HSZ.out]; kernel_rfl) (arrC_one _ _) ?_))
      have hgr := grown_setRow (x := wr) (y := wr) (g := h4) ⟨rfl, rfl, rfl, Nat.le_refl _, fun _ _ _ => rfl⟩ (arrC .u64 o)
      refine bodyPost_ret (v := .agg (arrC .u64 o)) (results_cell_row (ty := 107) (p := 4) (by kernel_rfl) _ _ h4 107 (arrC .u64 o) (0, 0) _ rfl (setRow_heap wr h4 _ _ _ _ HP8.out.res) Tryd.underlying107 rfl (by rw [HSZ.out]; kernel_rfl)) rfl ?_
      exact ⟨by rw [HPN.out], HP8.out.below.grown hgr HP8.out.below.size (fun r e => by cases e; exact hd4.out)⟩

end Go.Proofs.YtmfjhgjplmpecaaDoor

namespace Go.Proofs.YtmfjhgjplmpecaaDoor
open Go.RowKit Go.Shelf

def withN (a : List Nat) (bit : Nat) : List Nat := a.set (bit / 32) (g0 a (bit / 32) + 2 ^ (bit % 32))
theorem with_start (a : List Nat) (w : World) : Arr .u64 107 ((w.alloc (.cells (arrC .u64 a) 107)).alloc (.cells (arrC .u64 [0, 0, 0, 0, 0, 0, 0, 0]) 107)) w.heap.size a ∧ Arr .u64 107 ((w.alloc (.cells (arrC .u64 a) 107)).alloc (.cells (arrC .u64 [0, 0, 0, 0, 0, 0, 0, 0]) 107)) (w.heap.size + 1) (List.replicate 8 0) ∧ Below w.heap.size w ((w.alloc (.cells (arrC .u64 a) 107)).alloc (.cells (arrC .u64 [0, 0, 0, 0, 0, 0, 0, 0]) 107)) := by
  refine ⟨Arr.alloc (Go.heap_alloc_new w _) _, ?_, ((Below.refl w.heap.size w).alloc (Nat.le_refl _) _).alloc (by simp) _⟩
  have := Go.heap_alloc_new (w.alloc (.cells (arrC .u64 a) 107)) (.cells (arrC .u64 [0, 0, 0, 0, 0, 0, 0, 0]) 107)
  rwa [World.size_alloc] at this
theorem two_pow_lt (i : Nat) (h : i ≤ 31) : 2 ^ i ≤ 2147483648 := Nat.pow_le_pow_right (by decide) h
set_option maxHeartbeats 1000000 in
theorem with_any (a : List Nat) (bit : Nat) (k : Int) (ha : Eight a) (hk : k = bit) (hbit : bit < 256) (w : World) :
    Calls Tryd.prog 61 #[.agg (arrC .u64 a), .int .i64 k] w fun e w' => e = .returned (.agg (arrC .u64 (withN a bit))) ∧ Below w.heap.size w w' := by
  subst hk
  have hz : ∀ w, (zeroValue 107).run Tryd.prog w = .ok (.agg (arrC .u64 (List.replicate 8 0))) w := fun _ => by kernel_rfl
  obtain ⟨q, hq⟩ : ∃ q, q = bit / 32 := ⟨_, rfl⟩
  obtain ⟨r, hr⟩ : ∃ r, r = bit % 32 := ⟨_, rfl⟩
  have hqi : Int.tdiv (bit : Int) 32 = (q : Int) := by rw [Int.tdiv_eq_ediv_of_nonneg (by omega)]; omega
  have hri : Int.tmod (bit : Int) 32 = (r : Int) := by rw [Int.tmod_eq_emod_of_nonneg (by omega)]; omega
  have hq8 : q < 8 := by omega
  have hr32 : r < 32 := by omega
  have HQ := Lib.hid hq
  have HR := Lib.hid hr
  have HA := Lib.hid ha
  clear hq hr ha
  go_enter Tryd.func61, Tryd.ntmps61
  go_wp2_with fail
  have HP := Lib.hid (with_start a w)
  generalize (w.alloc (.cells (arrC .u64 a) 107)).alloc (.cells (arrC .u64 [0, 0, 0, 0, 0, 0, 0, 0]) 107) = W at *
  obtain ⟨h4, e4⟩ : ∃ h, h = w.heap.size + 1 := ⟨_, rfl⟩
  obtain ⟨h2, e2⟩ : ∃ h, h = w.heap.size := ⟨_, rfl⟩
  have hd : Hid (h4 ≠ h2 ∧ w.heap.size ≤ h4 ∧ w.heap.size ≤ h2) := ⟨by omega, by omega, by omega⟩
  rw [← e4] at HP ⊢
  have HP2 : Hid (Arr .u64 107 W h2 a ∧ Arr .u64 107 W h4 (List.replicate 8 0) ∧ Below w.heap.size w W) := by rw [e2]; exact HP
  rw [← e2]
  clear e4 e2 HP
  go_loopw [5, 6] (fun xv iv wq => ∃ i v : Nat, iv = .int .i64 (i : Int) ∧ xv = .int .u64 (v : Int) ∧ i ≤ r ∧ v ≤ 2147483648 ∧ Hid (v = 2 ^ i) ∧ W = wq) (fun _ iv _ => r - (intOf iv).toNat)
  case atStart => exact ⟨0, 1, rfl, rfl, Nat.zero_le _, by decide, rfl, rfl⟩
  case round =>
    obtain ⟨i, v, rfl, rfl, hi, hv, hI, rfl⟩ := hrel
    by_cases hlt : i < r
    · have hv2 := two_pow_lt (i + 1) (by omega)
      rw [Nat.pow_succ, ← hI.out] at hv2
      go_wp2
      go_roundw
      case rel => exact ⟨i + 1, 2 * v, by go_num, by go_num, by omega, by omega, by show 2 * v = 2 ^ (i + 1); rw [hI.out, Nat.pow_succ, Nat.mul_comm], trivial⟩
      case measure => simp [intOf] <;> omega
    · obtain rfl : i = r := by omega
      have cA := HP2.out.1.cell q (by rw [HA.out.1]; exact hq8)
      have fA := HP2.out.1.frozen q
      have lx : g0 a q < 4294967296 := g0_lt HA.out.2 (by decide) q
      obtain ⟨x, hx⟩ : ∃ x, x = g0 a q := ⟨_, rfl⟩
      change W.cell? _ = some (.int .u64 ((g0 a q : Nat) : Int)) at cA
      rw [← hx] at cA lx
      have HO := Lib.hid (show withN a bit = a.set q (x + v) by unfold withN; rw [← HQ.out, ← HR.out, ← hI.out, hx])
      have HS := Lib.hid (HP2.out.1.stored q (x + v) ((x : Int) + (v : Int)) (by push_cast; rfl))
      have H4 := Lib.hid (HP2.out.2.1.other ⟨h2, q, none⟩ (.int .u64 ((x : Int) + (v : Int))) hd.out.1)
      have HBW := Lib.hid (HP2.out.2.2.setCell (p := ⟨h2, q, none⟩) hd.out.2.2 (.int .u64 ((x : Int) + (v : Int))))
      have hsz : (arrC .u64 (a.set q (x + v))).size = 8 := by rw [arrC_size, List.length_set, HA.out.1]
      have HSZ := Lib.hid hsz
      clear hx hsz
      generalize a.set q (x + v) = o at *
      go_wp2_with (first | (refine wpList_load_row rfl _ _ rfl h2 rfl _ (arrC .u64 o) _ _ HS.out Tryd.underlying107 rfl (by rw [HSZ.out]; kernel_rfl) ?_) | (refine wpList_store_row rfl _ _ _ rfl h4 (arrC .u64 o) rfl rfl 107 _ H4.out (by rw [HSZ.out]; kernel_rfl) (by rw [HSZ.out]; kernel_rfl) (arrC_one _ _) ?_))
      have hgr := grown_setRow (x := W.setCell ⟨h2, q, none⟩ (.int .u64 ((x : Int) + (v : Int)))) (y := W.setCell ⟨h2, q, none⟩ (.int .u64 ((x : Int) + (v : Int)))) (g := h4) ⟨rfl, rfl, rfl, Nat.le_refl _, fun _ _ _ => rfl⟩ (arrC .u64 o)
      refine bodyPost_ret (v := .agg (arrC .u64 o)) (results_cell_row (ty := 107) (p := 4) (by kernel_rfl) _ _ h4 107 (arrC .u64 o) (0, 0) _ rfl (setRow_heap _ h4 _ _ _ _ H4.out) Tryd.underlying107 rfl (by rw [HSZ.out]; kernel_rfl)) rfl ?_
      exact ⟨by rw [HO.out], HBW.out.grown hgr HBW.out.size (fun r e => by cases e; exact hd.out.2.1)⟩

end Go.Proofs.YtmfjhgjplmpecaaDoor

namespace Go.Proofs.YtmfjhgjplmpecaaDoor
open Go.RowKit

/-- The number that digits to base b are. -/
def valB (b : Nat) : List Nat → Nat
  | [] => 0
  | d :: t => d + b * valB b t

/-- Digits without noughts at the end. -/
def bareN : List Nat → List Nat
  | [] => []
  | d :: t => if bareN t = [] ∧ d = 0 then [] else d :: bareN t

/-- A number's digits. -/
def natB (b n : Nat) : List Nat := if _h : n = 0 ∨ b < 2 then [] else n % b :: natB b (n / b)
termination_by n
decreasing_by exact Nat.div_lt_self (by omega) (by omega)

theorem natB_zero (b : Nat) : natB b 0 = [] := by unfold natB; simp
theorem natB_pos {b n : Nat} (hb : 2 ≤ b) (hn : 0 < n) : natB b n = n % b :: natB b (n / b) := by
  rw [natB]; rw [dif_neg (by omega)]

theorem valB_append (b : Nat) : ∀ l m : List Nat, valB b (l ++ m) = valB b l + b ^ l.length * valB b m
  | [], m => by simp [valB]
  | d :: t, m => by
    simp only [List.cons_append, valB, valB_append b t m, List.length_cons]
    rw [Nat.pow_succ, Nat.mul_add, Nat.add_assoc, ← Nat.mul_assoc, Nat.mul_comm b (b ^ t.length)]

theorem valB_snoc (b : Nat) (l : List Nat) (d : Nat) : valB b (l ++ [d]) = valB b l + b ^ l.length * d := by rw [valB_append]; simp [valB]

theorem valB_lt {b : Nat} (hb : 2 ≤ b) : ∀ {l : List Nat}, (∀ x ∈ l, x < b) → valB b l < b ^ l.length
  | [], _ => by simp [valB]
  | d :: t, h => by
    have h1 := valB_lt hb (l := t) (fun x hx => h x (List.mem_cons_of_mem _ hx))
    have h2 := h d List.mem_cons_self
    simp only [valB, List.length_cons, Nat.pow_succ]
    have h3 : b * (valB b t + 1) ≤ b * b ^ t.length := Nat.mul_le_mul_left _ h1
    rw [Nat.mul_comm (b ^ t.length) b]
    rw [Nat.mul_add] at h3
    omega

theorem natB_val {b : Nat} (hb : 2 ≤ b) (n : Nat) : valB b (natB b n) = n := by
  induction n using Nat.strongRecOn with
  | _ n ih =>
    by_cases hn : n = 0
    · subst hn; rw [natB_zero]; rfl
    · rw [natB_pos hb (by omega), valB, ih _ (Nat.div_lt_self (by omega) (by omega))]
      have := Nat.mod_add_div n b
      omega

theorem natB_digit {b : Nat} (hb : 2 ≤ b) (n : Nat) : ∀ x ∈ natB b n, x < b := by
  induction n using Nat.strongRecOn with
  | _ n ih =>
    by_cases hn : n = 0
    · subst hn; rw [natB_zero]; intro x hx; cases hx
    · rw [natB_pos hb (by omega)]
      intro x hx
      rcases List.mem_cons.1 hx with rfl | hx
      · exact Nat.mod_lt _ (by omega)
      · exact ih _ (Nat.div_lt_self (by omega) (by omega)) x hx

theorem natB_nil {b n : Nat} (hb : 2 ≤ b) : natB b n = [] ↔ n = 0 := by
  constructor
  · intro h
    have := natB_val hb n
    rw [h] at this
    exact this.symm
  · rintro rfl; exact natB_zero b

/-- Digits without noughts at the end are their number's. -/
theorem bareN_eq {b : Nat} (hb : 2 ≤ b) : ∀ {l : List Nat}, (∀ x ∈ l, x < b) → bareN l = natB b (valB b l)
  | [], _ => by rw [valB, natB_zero]; rfl
  | d :: t, h => by
    have h1 := bareN_eq hb (l := t) (fun x hx => h x (List.mem_cons_of_mem _ hx))
    have h2 := h d List.mem_cons_self
    unfold bareN
    by_cases hz : bareN t = [] ∧ d = 0
    · rw [if_pos hz]
      have : valB b t = 0 := by rw [h1] at hz; exact (natB_nil hb).1 hz.1
      rw [valB, this, hz.2]
      simp [natB_zero]
    · rw [if_neg hz]
      have hp : 0 < d + b * valB b t := by
        rcases Nat.eq_zero_or_pos d with rfl | h3
        · have : valB b t ≠ 0 := fun e => hz ⟨by rw [h1, e, natB_zero], rfl⟩
          have := Nat.mul_pos (show 0 < b by omega) (Nat.pos_of_ne_zero this)
          omega
        · omega
      rw [valB, natB_pos hb hp, Nat.add_mul_mod_self_left, Nat.mod_eq_of_lt h2, Nat.add_mul_div_left _ _ (by omega), Nat.div_eq_of_lt h2, Nat.zero_add, h1]

theorem bareN_val (b : Nat) : ∀ l : List Nat, valB b (bareN l) = valB b l
  | [] => rfl
  | d :: t => by
    have h1 := bareN_val b t
    unfold bareN
    by_cases hz : bareN t = [] ∧ d = 0
    · rw [if_pos hz]
      rw [hz.1] at h1
      simp only [valB] at h1 ⊢
      rw [← h1, hz.2]
      simp
    · rw [if_neg hz, valB, valB, h1]

theorem bareN_snoc_zero : ∀ l : List Nat, bareN (l ++ [0]) = bareN l
  | [] => by simp [bareN]
  | d :: t => by simp only [List.cons_append, bareN, bareN_snoc_zero t]

theorem bareN_snoc (l : List Nat) (x : Nat) (hx : x ≠ 0) : bareN (l ++ [x]) = l ++ [x] := by
  induction l with
  | nil => simp [bareN, hx]
  | cons d t ih => simp only [List.cons_append, bareN, ih]; simp

theorem take_snocN (l : List Nat) (k : Nat) (hk : k < l.length) : l.take (k + 1) = l.take k ++ [l[k]?.getD 0] := by
  rw [List.take_add_one, List.getElem?_eq_getElem hk]; rfl

theorem bareN_step (l : List Nat) (k : Nat) (hk : k < l.length) : bareN (l.take (k + 1)) = if l[k]?.getD 0 = 0 then bareN (l.take k) else l.take (k + 1) := by
  rw [take_snocN l k hk]
  split
  · next h => rw [h, bareN_snoc_zero]
  · next h => rw [bareN_snoc _ _ h]

theorem bareN_le (l : List Nat) : (bareN l).length ≤ l.length := by
  induction l with
  | nil => simp [bareN]
  | cons d t ih => unfold bareN; split <;> simp <;> omega

theorem bareN_mem {l : List Nat} {x : Nat} (h : x ∈ bareN l) : x ∈ l := by
  induction l with
  | nil => exact h
  | cons d t ih =>
    unfold bareN at h
    split at h
    · cases h
    · rcases List.mem_cons.1 h with rfl | h
      · exact List.mem_cons_self
      · exact List.mem_cons_of_mem _ (ih h)

theorem bareN_prefix (l : List Nat) : bareN l = l.take (bareN l).length := by
  induction l with
  | nil => rfl
  | cons d t ih =>
    rw [bareN]
    split
    · rfl
    · simp only [List.length_cons, List.take_succ_cons]
      rw [← ih]

/-- How many digits a number has. -/
theorem natB_length {b : Nat} (hb : 2 ≤ b) (n k : Nat) : (natB b n).length ≤ k ↔ n < b ^ k := by
  induction k generalizing n with
  | zero =>
    rw [Nat.pow_zero, Nat.le_zero, List.length_eq_zero_iff, natB_nil hb]
    omega
  | succ k ih =>
    rcases Nat.eq_zero_or_pos n with rfl | hn
    · rw [natB_zero]
      have : 0 < b ^ (k + 1) := Nat.pow_pos (by omega)
      simp [this]
    · rw [natB_pos hb hn, List.length_cons, Nat.add_le_add_iff_right, ih, Nat.pow_succ, Nat.div_lt_iff_lt_mul (by omega)]

theorem natB_len_lt {b : Nat} (hb : 2 ≤ b) (n k : Nat) : k < (natB b n).length ↔ b ^ k ≤ n := by
  have := natB_length hb n k
  omega

/-- A digit of a number. -/
theorem natB_get {b : Nat} (hb : 2 ≤ b) (n k : Nat) : (natB b n)[k]?.getD 0 = n / b ^ k % b := by
  induction k generalizing n with
  | zero =>
    rcases Nat.eq_zero_or_pos n with rfl | hn
    · rw [natB_zero]; simp
    · rw [natB_pos hb hn]; simp
  | succ k ih =>
    rcases Nat.eq_zero_or_pos n with rfl | hn
    · rw [natB_zero]; simp
    · rw [natB_pos hb hn, List.getElem?_cons_succ, ih, Nat.pow_succ, Nat.div_div_eq_div_mul, Nat.mul_comm b]

theorem valB_get {b : Nat} (hb : 2 ≤ b) {l : List Nat} (h : ∀ x ∈ l, x < b) (k : Nat) : l[k]?.getD 0 = valB b l / b ^ k % b := by
  induction l generalizing k with
  | nil => simp [valB]
  | cons d t ih =>
    have h2 := h d List.mem_cons_self
    cases k with
    | zero => simp [valB, Nat.mod_eq_of_lt h2]
    | succ k =>
      rw [List.getElem?_cons_succ, ih (fun x hx => h x (List.mem_cons_of_mem _ hx)), valB, Nat.pow_succ, Nat.mul_comm (b ^ k) b, ← Nat.div_div_eq_div_mul, Nat.add_mul_div_left _ _ (by omega), Nat.div_eq_of_lt h2, Nat.zero_add]

theorem valB_take {b : Nat} (hb : 2 ≤ b) {l : List Nat} (h : ∀ x ∈ l, x < b) (k : Nat) : valB b (l.take k) = valB b l % b ^ k := by
  by_cases hk : k ≤ l.length
  · have h1 := valB_append b (l.take k) (l.drop k)
    rw [List.take_append_drop] at h1
    have h2 := valB_lt hb (l := l.take k) (fun x hx => h x (List.mem_of_mem_take hx))
    rw [List.length_take, Nat.min_eq_left hk] at h1 h2
    rw [h1, Nat.add_mul_mod_self_left, Nat.mod_eq_of_lt h2]
  · have h2 := valB_lt hb h
    rw [List.take_of_length_le (by omega), Nat.mod_eq_of_lt]
    exact Nat.lt_of_lt_of_le h2 (Nat.pow_le_pow_right (by omega) (by omega))

theorem valB_drop {b : Nat} (hb : 2 ≤ b) {l : List Nat} (h : ∀ x ∈ l, x < b) (k : Nat) : valB b (l.drop k) = valB b l / b ^ k := by
  by_cases hk : k ≤ l.length
  · have h1 := valB_append b (l.take k) (l.drop k)
    rw [List.take_append_drop] at h1
    have h2 := valB_lt hb (l := l.take k) (fun x hx => h x (List.mem_of_mem_take hx))
    rw [List.length_take, Nat.min_eq_left hk] at h1 h2
    rw [h1, Nat.add_mul_div_left _ _ (Nat.pow_pos (by omega)), Nat.div_eq_of_lt h2, Nat.zero_add]
  · have h2 := valB_lt hb h
    rw [List.drop_eq_nil_of_le (by omega), Nat.div_eq_of_lt]
    · rfl
    · exact Nat.lt_of_lt_of_le h2 (Nat.pow_le_pow_right (by omega) (by omega))

theorem valB_zeros (b k : Nat) : valB b (List.replicate k 0) = 0 := by
  induction k with
  | zero => rfl
  | succ k ih => rw [List.replicate_succ, valB, ih]; rfl

theorem valB_inj {b : Nat} (hb : 2 ≤ b) {l m : List Nat} (hl : ∀ x ∈ l, x < b) (hm : ∀ x ∈ m, x < b) (h : valB b l = valB b m) : bareN l = bareN m := by
  rw [bareN_eq hb hl, bareN_eq hb hm, h]

/-- A natural's number. -/
abbrev val32 (l : List Nat) : Nat := valB 4294967296 l
abbrev nat32 (n : Nat) : List Nat := natB 4294967296 n
abbrev Lim (l : List Nat) : Prop := ∀ x ∈ l, x < 4294967296
/-- The least number that is too great. -/
def topN : Nat := 4294967296 ^ 256
theorem topN_256 : topN = 256 ^ 1024 := by
  have h : ∀ a b c d e : Nat, a = b ^ c → e = c * d → a ^ d = b ^ e := by
    rintro a b c d e rfl rfl
    exact (Nat.pow_mul b c d).symm
  exact h 4294967296 256 4 256 1024 (by decide) (by decide)

/-- A natural, or the error. -/
def cutR32 (n : Nat) : List Nat × Int := if n < topN then (nat32 n, 0) else ([], 20)
theorem cutR_small {n : Nat} (h : n < topN) : cutR32 n = (nat32 n, 0) := if_pos h
theorem cutR_large {n : Nat} (h : ¬ n < topN) : cutR32 n = ([], 20) := if_neg h

theorem cut_iff (l : List Nat) (h : Lim l) : (bareN l).length ≤ 256 ↔ val32 l < topN := by
  rw [bareN_eq (by decide) h, natB_length (by decide)]
  exact Iff.rfl

theorem cut_iff8 (l : List Nat) (h : ∀ x ∈ l, x < 256) : (bareN l).length ≤ 1024 ↔ valB 256 l < topN := by
  rw [bareN_eq (by decide) h, natB_length (by decide), topN_256]

end Go.Proofs.YtmfjhgjplmpecaaDoor

namespace Go.Proofs.YtmfjhgjplmpecaaDoor
open Go.RowKit

theorem valB_setW (b : Nat) : ∀ (l : List Nat) (t d : Nat), t < l.length → valB b (l.set t d) + b ^ t * (l[t]?.getD 0) = valB b l + b ^ t * d
  | [], t, d, h => by simp at h
  | c :: l, 0, d, _ => by simp [valB]; omega
  | c :: l, t + 1, d, h => by
    have := valB_setW b l t d (by simpa using h)
    simp only [List.set_cons_succ, valB, List.getElem?_cons_succ, Nat.pow_succ]
    have e1 : b ^ t * b * (l[t]?.getD 0) = b * (b ^ t * (l[t]?.getD 0)) := by rw [Nat.mul_comm (b ^ t) b, Nat.mul_assoc]
    have e2 : b ^ t * b * d = b * (b ^ t * d) := by rw [Nat.mul_comm (b ^ t) b, Nat.mul_assoc]
    have e3 : b * (valB b (l.set t d) + b ^ t * (l[t]?.getD 0)) = b * (valB b l + b ^ t * d) := by rw [this]
    rw [Nat.mul_add, Nat.mul_add] at e3
    omega

theorem val_take_succ {l : List Nat} (k : Nat) (hk : k < l.length) : valB 4294967296 (l.take (k + 1)) = valB 4294967296 (l.take k) + 4294967296 ^ k * g0 l k := by
  rw [take_snocN l k hk, valB_snoc, List.length_take, Nat.min_eq_left (by omega)]
  rfl
theorem in_step {V W z s P x y c : Nat} (h : W + P * z = V + P * (s % 4294967296)) (hs : s = z + x * y + c) : W + s / 4294967296 * (P * 4294967296) = V + P * c + P * (x * y) := by
  have h1 : P * s = P * (s % 4294967296) + s / 4294967296 * (P * 4294967296) := by
    have := Nat.div_add_mod s 4294967296
    rw [← Nat.mul_assoc, Nat.mul_comm (s / 4294967296) P, Nat.mul_assoc, ← Nat.mul_add]
    congr 1
    omega
  have h2 : P * s = P * z + P * (x * y) + P * c := by rw [hs, Nat.mul_add, Nat.mul_add]
  omega
theorem inN_val {a b : List Nat} {i : Nat} {out : List Nat} (ha : Eight a) (hb : Eight b) (ho : Eight out) : ∀ k, i + k ≤ 8 →
    valB 4294967296 (inN a b i out k).1 + (inN a b i out k).2 * 4294967296 ^ (i + k) = valB 4294967296 out + g0 a i * valB 4294967296 (b.take k) * 4294967296 ^ i
  | 0, _ => by simp [inN, valB]
  | k + 1, h => by
    have ih := inN_val ha hb ho (i := i) k (by omega)
    have hok := (inN_ok (i := i) ha hb ho k).1.1
    have hset := valB_setW 4294967296 (inN a b i out k).1 (i + k) ((g0 (inN a b i out k).1 (i + k) + g0 a i * g0 b k + (inN a b i out k).2) % 4294967296) (by omega)
    have hst := in_step hset rfl
    show valB 4294967296 ((inN a b i out k).1.set (i + k) _) + (g0 (inN a b i out k).1 (i + k) + g0 a i * g0 b k + (inN a b i out k).2) / 4294967296 * 4294967296 ^ (i + k + 1) = _
    rw [Nat.pow_succ, hst, val_take_succ k (by rw [hb.1]; omega), Nat.mul_comm (4294967296 ^ (i + k)) (inN a b i out k).2, ih, Nat.mul_add, Nat.add_mul, Nat.pow_add]
    generalize 4294967296 ^ i = Q
    generalize 4294967296 ^ k = R
    rw [Nat.add_assoc]
    congr 2
    ac_rfl
theorem outN_val {a b : List Nat} (ha : Eight a) (hb : Eight b) : ∀ i, i ≤ 8 → ∃ m, valB 4294967296 (outN a b i) + m * 4294967296 ^ 8 = valB 4294967296 (a.take i) * valB 4294967296 b
  | 0, _ => ⟨0, by simp [outN, valB]⟩
  | i + 1, h => by
    obtain ⟨m, hm⟩ := outN_val ha hb i (by omega)
    have hin := inN_val ha hb (outN_ok ha hb i) (i := i) (8 - i) (by omega)
    have hb2 := valB_append 4294967296 (b.take (8 - i)) (b.drop (8 - i))
    rw [List.take_append_drop, List.length_take, hb.1, Nat.min_eq_left (by omega)] at hb2
    have hP : 4294967296 ^ 8 = 4294967296 ^ (8 - i) * 4294967296 ^ i := by rw [← Nat.pow_add]; congr 1; omega
    rw [show i + (8 - i) = 8 by omega] at hin
    refine ⟨(inN a b i (outN a b i) (8 - i)).2 + m + g0 a i * valB 4294967296 (b.drop (8 - i)), ?_⟩
    show valB 4294967296 (inN a b i (outN a b i) (8 - i)).1 + _ = _
    have e0 : (valB 4294967296 (a.take i) + 4294967296 ^ i * g0 a i) * valB 4294967296 b = valB 4294967296 (a.take i) * valB 4294967296 b + 4294967296 ^ i * g0 a i * valB 4294967296 b := Nat.add_mul _ _ _
    have e1 : ((inN a b i (outN a b i) (8 - i)).2 + m + g0 a i * valB 4294967296 (b.drop (8 - i))) * 4294967296 ^ 8 = (inN a b i (outN a b i) (8 - i)).2 * 4294967296 ^ 8 + m * 4294967296 ^ 8 + g0 a i * valB 4294967296 (b.drop (8 - i)) * 4294967296 ^ 8 := by rw [Nat.add_mul, Nat.add_mul]
    rw [val_take_succ (l := a) i (by rw [ha.1]; omega), e0, ← hm, e1]
    have e : 4294967296 ^ i * g0 a i * valB 4294967296 b = g0 a i * valB 4294967296 (b.take (8 - i)) * 4294967296 ^ i + g0 a i * valB 4294967296 (b.drop (8 - i)) * 4294967296 ^ 8 := by
      rw [hP]
      generalize 4294967296 ^ (8 - i) = R at *
      generalize 4294967296 ^ i = Q at *
      rw [hb2, Nat.mul_add]
      congr 1 <;> ac_rfl
    rw [e]
    generalize 4294967296 ^ 8 = M at *
    omega
theorem eight_lt {l : List Nat} (h : Eight l) : valB 4294967296 l < 4294967296 ^ 8 := by
  have := valB_lt (b := 4294967296) (by decide) h.2
  rwa [h.1] at this
theorem productN_val {a b : List Nat} (ha : Eight a) (hb : Eight b) : valB 4294967296 (productN a b) = valB 4294967296 a * valB 4294967296 b % 4294967296 ^ 8 := by
  obtain ⟨m, hm⟩ := outN_val ha hb 8 (Nat.le_refl _)
  rw [List.take_of_length_le (by rw [ha.1]; exact Nat.le_refl _)] at hm
  rw [← hm, Nat.add_mul_mod_self_right]
  exact (Nat.mod_eq_of_lt (eight_lt (productN_ok ha hb))).symm
theorem blt_dec (x y : Nat) : Nat.blt x y = decide (x < y) := by
  rw [Bool.eq_iff_iff, Nat.blt_eq, decide_eq_true_iff]
theorem moreN_val {a b : List Nat} (ha : Eight a) (hb : Eight b) : ∀ j, j ≤ 8 → moreN a b j = Nat.blt (valB 4294967296 (b.take j)) (valB 4294967296 (a.take j))
  | 0, _ => by show false = Nat.blt 0 0; rfl
  | j + 1, h => by
    have ih := moreN_val ha hb j (by omega)
    have la := valB_lt (b := 4294967296) (by decide) (l := a.take j) (fun x hx => ha.2 x (List.mem_of_mem_take hx))
    have lb := valB_lt (b := 4294967296) (by decide) (l := b.take j) (fun x hx => hb.2 x (List.mem_of_mem_take hx))
    rw [List.length_take, ha.1, Nat.min_eq_left (by omega)] at la
    rw [List.length_take, hb.1, Nat.min_eq_left (by omega)] at lb
    rw [val_take_succ (l := a) j (by rw [ha.1]; omega), val_take_succ (l := b) j (by rw [hb.1]; omega), moreN]
    generalize 4294967296 ^ j = P at *
    generalize g0 a j = x at *
    generalize g0 b j = y at *
    split
    · next e =>
      rw [ih, e]
      rw [blt_dec, blt_dec, decide_eq_decide]
      omega
    · next e =>
      rw [blt_dec, decide_eq_decide]
      rcases Nat.lt_or_ge y x with hlt | hge
      · have : P * (y + 1) ≤ P * x := Nat.mul_le_mul_left _ hlt
        rw [Nat.mul_succ] at this
        omega
      · have : P * (x + 1) ≤ P * y := Nat.mul_le_mul_left _ (by omega)
        rw [Nat.mul_succ] at this
        omega
theorem more_val {a b : List Nat} (ha : Eight a) (hb : Eight b) : moreN a b 8 = Nat.blt (valB 4294967296 b) (valB 4294967296 a) := by
  rw [moreN_val ha hb 8 (Nat.le_refl _), List.take_of_length_le (l := a) (by rw [ha.1]; exact Nat.le_refl _), List.take_of_length_le (l := b) (by rw [hb.1]; exact Nat.le_refl _)]
/-- Eight limbs, by computation. -/
def eightB (l : List Nat) : Bool := Nat.beq l.length 8 && l.all fun x => Nat.blt x 4294967296
theorem eight_of_B {l : List Nat} (h : eightB l = true) : Eight l := by
  simp only [eightB, Bool.and_eq_true, List.all_eq_true] at h
  exact ⟨Nat.eq_of_beq_eq_true h.1, fun x hx => by have := h.2 x hx; rw [Nat.blt_eq] at this; exact this⟩
/-- The number's bits, laid so far up. -/
def xV (s : Nat) : Nat → Nat → List Nat → Option (List Nat)
  | 0, _, x => some x
  | f + 1, n, x => bif Nat.beq (n % 2) 1 then (bif eightB (withN x (s + (8 - f))) then xV s f (n / 2) (withN x (s + (8 - f))) else none) else xV s f (n / 2) x
/-- A root's bits, the highest one first. -/
def rV (k X : Nat) : Nat → List Nat → Option (List Nat)
  | 0, r => some r
  | i + 1, r => bif eightB (withN r i) then rV k X i (bif Nat.blt X ((valB 4294967296 (withN r i)) ^ k % 4294967296 ^ 8) then r else withN r i) else none
def fracV (n k bits : Nat) : Option Nat :=
  match xV (k * bits) 9 n (List.replicate 8 0) with
  | none => none
  | some x => match rV k (valB 4294967296 x) (bits + 6) (List.replicate 8 0) with
    | none => none
    | some r => some (bif Nat.beq bits 32 then g0 r 0 else g0 r 0 + 4294967296 * g0 r 1)
def fracsB (k bits m : Nat) : List Nat → List Nat → Bool
  | [], [] => true
  | p :: l, x :: t => (match fracV p k bits with
    | none => false
    | some v => Nat.beq (v % m) x) && fracsB k bits m l t
  | _, _ => false
theorem fracs_at {k bits m : Nat} : ∀ {l t : List Nat}, fracsB k bits m l t = true → ∀ i, i < l.length → ∃ v, fracV (g0 l i) k bits = some v ∧ v % m = g0 t i
  | [], _, _, i, hi => by simp at hi
  | _ :: _, [], h, _, _ => by simp [fracsB] at h
  | p :: l, x :: t, h, 0, _ => by
    simp only [fracsB, Bool.and_eq_true] at h
    show ∃ v, fracV p k bits = some v ∧ v % m = x
    cases e : fracV p k bits with
    | none => rw [e] at h; cases h.1
    | some v => rw [e] at h; exact ⟨v, rfl, Nat.eq_of_beq_eq_true h.1⟩
  | p :: l, x :: t, h, i + 1, hi => by
    simp only [fracsB, Bool.and_eq_true] at h
    exact fracs_at h.2 i (by simpa using hi)

end Go.Proofs.YtmfjhgjplmpecaaDoor
