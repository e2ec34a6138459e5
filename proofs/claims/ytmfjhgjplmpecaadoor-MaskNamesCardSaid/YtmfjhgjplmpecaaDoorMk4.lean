/-
  MERGED: MkN MkO MkP
-/
import Derived.Test.YtmfjhgjplmpecaaDoorMk3
import Derived.Lib.SmallJoins
namespace Go.Proofs.YtmfjhgjplmpecaaDoor
open Go.RowKit Go.Shelf
set_option maxRecDepth 100000

def eqS (h : Nat) (s : ByteArray) : Bool := (strOf (mName h)).toList == s.toList
def mNamed (s : ByteArray) : Int := if eqS 1 s = true then 1 else if eqS 2 s = true then 2 else if eqS 3 s = true then 3 else if eqS 4 s = true then 4 else 0

theorem idxK0 (w : World) : (Instr.index 61 (.agg #[.string (strOf [115, 104, 97, 50, 50, 52]), .int .i64 28, .int .u8 4, .string (strOf [115, 104, 97, 50, 53, 54]), .int .i64 32, .int .u8 1, .string (strOf [115, 104, 97, 51, 56, 52]), .int .i64 48, .int .u8 2, .string (strOf [115, 104, 97, 53, 49, 50]), .int .i64 64, .int .u8 3]) (.int .i64 0)).run Tryd.prog w = .ok (.agg #[.string (strOf [115, 104, 97, 50, 50, 52]), .int .i64 28, .int .u8 4]) w := by kernel_rfl
theorem idxK1 (w : World) : (Instr.index 61 (.agg #[.string (strOf [115, 104, 97, 50, 50, 52]), .int .i64 28, .int .u8 4, .string (strOf [115, 104, 97, 50, 53, 54]), .int .i64 32, .int .u8 1, .string (strOf [115, 104, 97, 51, 56, 52]), .int .i64 48, .int .u8 2, .string (strOf [115, 104, 97, 53, 49, 50]), .int .i64 64, .int .u8 3]) (.int .i64 1)).run Tryd.prog w = .ok (.agg #[.string (strOf [115, 104, 97, 50, 53, 54]), .int .i64 32, .int .u8 1]) w := by kernel_rfl
theorem idxK2 (w : World) : (Instr.index 61 (.agg #[.string (strOf [115, 104, 97, 50, 50, 52]), .int .i64 28, .int .u8 4, .string (strOf [115, 104, 97, 50, 53, 54]), .int .i64 32, .int .u8 1, .string (strOf [115, 104, 97, 51, 56, 52]), .int .i64 48, .int .u8 2, .string (strOf [115, 104, 97, 53, 49, 50]), .int .i64 64, .int .u8 3]) (.int .i64 2)).run Tryd.prog w = .ok (.agg #[.string (strOf [115, 104, 97, 51, 56, 52]), .int .i64 48, .int .u8 2]) w := by kernel_rfl
theorem idxK3 (w : World) : (Instr.index 61 (.agg #[.string (strOf [115, 104, 97, 50, 50, 52]), .int .i64 28, .int .u8 4, .string (strOf [115, 104, 97, 50, 53, 54]), .int .i64 32, .int .u8 1, .string (strOf [115, 104, 97, 51, 56, 52]), .int .i64 48, .int .u8 2, .string (strOf [115, 104, 97, 53, 49, 50]), .int .i64 64, .int .u8 3]) (.int .i64 3)).run Tryd.prog w = .ok (.agg #[.string (strOf [115, 104, 97, 53, 49, 50]), .int .i64 64, .int .u8 3]) w := by kernel_rfl
set_option maxHeartbeats 1000000 in
theorem named_any (s : ByteArray) (w : World) (hk : Kinds w) : Calls Tryd.prog 18 #[.string s] w fun e w' => e = .returned (.int .i64 (mNamed s)) ∧ Below w.heap.size w w' := by
  have c0 : w.cell? ⟨0, 0, none⟩ = some (.string (strOf [115, 104, 97, 50, 50, 52])) := hk 0 (by decide)
  have c1 : w.cell? ⟨0, 1, none⟩ = some (.int .i64 28) := hk 1 (by decide)
  have c2 : w.cell? ⟨0, 2, none⟩ = some (.int .u8 4) := hk 2 (by decide)
  have c3 : w.cell? ⟨0, 3, none⟩ = some (.string (strOf [115, 104, 97, 50, 53, 54])) := hk 3 (by decide)
  have c4 : w.cell? ⟨0, 4, none⟩ = some (.int .i64 32) := hk 4 (by decide)
  have c5 : w.cell? ⟨0, 5, none⟩ = some (.int .u8 1) := hk 5 (by decide)
  have c6 : w.cell? ⟨0, 6, none⟩ = some (.string (strOf [115, 104, 97, 51, 56, 52])) := hk 6 (by decide)
  have c7 : w.cell? ⟨0, 7, none⟩ = some (.int .i64 48) := hk 7 (by decide)
  have c8 : w.cell? ⟨0, 8, none⟩ = some (.int .u8 2) := hk 8 (by decide)
  have c9 : w.cell? ⟨0, 9, none⟩ = some (.string (strOf [115, 104, 97, 53, 49, 50])) := hk 9 (by decide)
  have c10 : w.cell? ⟨0, 10, none⟩ = some (.int .i64 64) := hk 10 (by decide)
  have c11 : w.cell? ⟨0, 11, none⟩ = some (.int .u8 3) := hk 11 (by decide)
  have hlt := hk.lt
  have HB0 := Lib.hid (Below.refl w.heap.size w)
  clear hk
  go_enter Tryd.func18, Tryd.ntmps18
  go_wp2_with fail
  clear c0 c1 c2 c3 c4 c5 c6 c7 c8 c9 c10 c11
  go_loopw [6] (fun iv wq => ∃ i : Nat, iv = .int .i64 (i : Int) ∧ i ≤ 4 ∧ Hid ((∀ j, j < i → eqS (j + 1) s = false) ∧ Below w.heap.size w wq)) (fun iv _ => 4 - (intOf iv).toNat)
  case atStart => exact ⟨0, rfl, Nat.zero_le _, fun j hj => by omega, HB0.out⟩
  case round =>
    obtain ⟨i, rfl, hi, hI⟩ := hrel
    have HJ := Lib.hid hI.out.1
    have HB := Lib.hid hI.out.2
    have hsz := hI.out.2.size
    clear hI
    rcases (show i = 0 ∨ i = 1 ∨ i = 2 ∨ i = 3 ∨ i = 4 by omega) with rfl | rfl | rfl | rfl | rfl
    · cases he : eqS 1 s with
      | true =>
        have e1 : ((strOf [115, 104, 97, 50, 50, 52]).toList == s.toList) = true := he
        have HN := Lib.hid (show mNamed s = 1 by
          have h0 := HJ.out
          unfold mNamed
          simp [he])
        clear he
        have ix := idxK0
        go_wp2
        go_ret
        exact ⟨by rw [HN.out]; rfl, by have h := HB.out; (repeat' (first | exact h | refine Below.drew ?_ | refine Below.alloc ?_ (by first | omega | (simp; omega)) _))⟩
      | false =>
        have e1 : ((strOf [115, 104, 97, 50, 50, 52]).toList == s.toList) = false := he
        have HE := Lib.hid he
        clear he
        have ix := idxK0
        go_wp2
        go_roundw
        case rel => exact ⟨1, by go_num, by omega, fun j hj => (by
          rcases (show j < 0 ∨ j = 0 by omega) with h1 | rfl
          · exact HJ.out j h1
          · exact HE.out), by have h := HB.out; (repeat' (first | exact h | refine Below.drew ?_ | refine Below.alloc ?_ (by first | omega | (simp; omega)) _))⟩
        case measure => simp [intOf]
    · cases he : eqS 2 s with
      | true =>
        have e1 : ((strOf [115, 104, 97, 50, 53, 54]).toList == s.toList) = true := he
        have HN := Lib.hid (show mNamed s = 2 by
          have h0 := HJ.out
          have p1 := h0 0 (by decide)
          simp only [Nat.reduceAdd] at p1
          unfold mNamed
          simp [he, p1])
        clear he
        have ix := idxK1
        go_wp2
        go_ret
        exact ⟨by rw [HN.out]; rfl, by have h := HB.out; (repeat' (first | exact h | refine Below.drew ?_ | refine Below.alloc ?_ (by first | omega | (simp; omega)) _))⟩
      | false =>
        have e1 : ((strOf [115, 104, 97, 50, 53, 54]).toList == s.toList) = false := he
        have HE := Lib.hid he
        clear he
        have ix := idxK1
        go_wp2
        go_roundw
        case rel => exact ⟨2, by go_num, by omega, fun j hj => (by
          rcases (show j < 1 ∨ j = 1 by omega) with h1 | rfl
          · exact HJ.out j h1
          · exact HE.out), by have h := HB.out; (repeat' (first | exact h | refine Below.drew ?_ | refine Below.alloc ?_ (by first | omega | (simp; omega)) _))⟩
        case measure => simp [intOf]
    · cases he : eqS 3 s with
      | true =>
        have e1 : ((strOf [115, 104, 97, 51, 56, 52]).toList == s.toList) = true := he
        have HN := Lib.hid (show mNamed s = 3 by
          have h0 := HJ.out
          have p1 := h0 0 (by decide)
          simp only [Nat.reduceAdd] at p1
          have p2 := h0 1 (by decide)
          simp only [Nat.reduceAdd] at p2
          unfold mNamed
          simp [he, p1, p2])
        clear he
        have ix := idxK2
        go_wp2
        go_ret
        exact ⟨by rw [HN.out]; rfl, by have h := HB.out; (repeat' (first | exact h | refine Below.drew ?_ | refine Below.alloc ?_ (by first | omega | (simp; omega)) _))⟩
      | false =>
        have e1 : ((strOf [115, 104, 97, 51, 56, 52]).toList == s.toList) = false := he
        have HE := Lib.hid he
        clear he
        have ix := idxK2
        go_wp2
        go_roundw
        case rel => exact ⟨3, by go_num, by omega, fun j hj => (by
          rcases (show j < 2 ∨ j = 2 by omega) with h1 | rfl
          · exact HJ.out j h1
          · exact HE.out), by have h := HB.out; (repeat' (first | exact h | refine Below.drew ?_ | refine Below.alloc ?_ (by first | omega | (simp; omega)) _))⟩
        case measure => simp [intOf]
    · cases he : eqS 4 s with
      | true =>
        have e1 : ((strOf [115, 104, 97, 53, 49, 50]).toList == s.toList) = true := he
        have HN := Lib.hid (show mNamed s = 4 by
          have h0 := HJ.out
          have p1 := h0 0 (by decide)
          simp only [Nat.reduceAdd] at p1
          have p2 := h0 1 (by decide)
          simp only [Nat.reduceAdd] at p2
          have p3 := h0 2 (by decide)
          simp only [Nat.reduceAdd] at p3
          unfold mNamed
          simp [he, p1, p2, p3])
        clear he
        have ix := idxK3
        go_wp2
        go_ret
        exact ⟨by rw [HN.out]; rfl, by have h := HB.out; (repeat' (first | exact h | refine Below.drew ?_ | refine Below.alloc ?_ (by first | omega | (simp; omega)) _))⟩
      | false =>
        have e1 : ((strOf [115, 104, 97, 53, 49, 50]).toList == s.toList) = false := he
        have HE := Lib.hid he
        clear he
        have ix := idxK3
        go_wp2
        go_roundw
        case rel => exact ⟨4, by go_num, by omega, fun j hj => (by
          rcases (show j < 3 ∨ j = 3 by omega) with h1 | rfl
          · exact HJ.out j h1
          · exact HE.out), by have h := HB.out; (repeat' (first | exact h | refine Below.drew ?_ | refine Below.alloc ?_ (by first | omega | (simp; omega)) _))⟩
        case measure => simp [intOf]
    · have HN := Lib.hid (show mNamed s = 0 by
        have h0 := HJ.out
        have p1 := h0 0 (by decide)
        have p2 := h0 1 (by decide)
        have p3 := h0 2 (by decide)
        have p4 := h0 3 (by decide)
        simp only [Nat.reduceAdd] at p1 p2 p3 p4
        unfold mNamed
        simp [p1, p2, p3, p4])
      go_wp2
      go_ret
      exact ⟨by rw [HN.out]; rfl, HB.out⟩

end Go.Proofs.YtmfjhgjplmpecaaDoor

namespace Go.Proofs.YtmfjhgjplmpecaaDoor
open Go.RowKit Go.Shelf
set_option maxRecDepth 100000

theorem cellM {W : World} {g i : Nat} {cs : Array Value} {E : TypeId} {fz : Nat × Nat} (h : W.heap[g]? = some (.cells cs E fz)) : W.cell? ⟨g, i, none⟩ = cs[i]? := by
  simp [World.cell?, h]
theorem readsM {W : World} {g : Nat} {l : List Nat} {cs : Array Value} {E : TypeId} {fz : Nat × Nat} {n : Nat} (h : W.heap[g]? = some (.cells cs E fz)) (hc : cs = (l.map (num .u8)).toArray) (hn : n = l.length) (hm : n ≤ 1000) : Reads .u8 W (some ⟨g, 0, none⟩) n n l := by
  subst hn
  refine ⟨rfl, Nat.le_refl _, (by unfold maxLen; omega), (fun h => by cases h), fun _ => ⟨g, 0, rfl, (Array.getElem?_eq_some_iff.1 h).1, fun i hi => ?_⟩⟩
  rw [Nat.zero_add, cellM h, hc]
  simp [num, hi]
theorem heap_alloc_two (w : World) (o p : Obj) : ((w.alloc o).alloc p).heap[w.heap.size]? = some o := by
  rw [Below.heap_alloc _ _ _ (by simp)]
  exact World.alloc_heap_new w o
theorem heap_alloc_three (w : World) (o p q : Obj) : (((w.alloc o).alloc p).alloc q).heap[w.heap.size]? = some o := by
  rw [Below.heap_alloc _ _ _ (by simp; omega)]
  exact heap_alloc_two w o p
theorem heap_alloc_mid (w : World) (o p q : Obj) : (((w.alloc o).alloc p).alloc q).heap[w.heap.size + 1]? = some p := by
  have h := heap_alloc_two (w.alloc o) p q
  rwa [World.size_alloc] at h
theorem heap_alloc_last (w : World) (o p q : Obj) : (((w.alloc o).alloc p).alloc q).heap[w.heap.size + 2]? = some q := by
  have h := World.alloc_heap_new ((w.alloc o).alloc p) q
  rwa [World.size_alloc, World.size_alloc] at h

def abcR (s : Nat) : Nat → Option Addr × Nat × Nat × List Nat
  | 0 => (some ⟨s, 0, none⟩, 1, 1, [97])
  | 1 => (none, 0, 0, [])
  | _ => (some ⟨s + 1, 0, none⟩, 2, 2, [98, 99])
theorem abc_rows (w : World) : RowsM (((w.alloc (.cells #[.int .u8 97] 5 (1, 2))).alloc (.cells #[.int .u8 98, .int .u8 99] 5 (2, 3))).alloc (.cells #[.slice (some ⟨w.heap.size, 0, none⟩) 1 1, .slice none 0 0, .slice (some ⟨w.heap.size + 1, 0, none⟩) 2 2] 23)) (some ⟨w.heap.size + 2, 0, none⟩) 3 (abcR w.heap.size) := by
  refine ⟨fun i hi => ?_, fun _ => ⟨_, 0, rfl, by simp, fun i hi => ?_⟩⟩
  · rcases (show i = 0 ∨ i = 1 ∨ i = 2 by omega) with rfl | rfl | rfl
    · exact ⟨readsM (heap_alloc_three w _ _ _) rfl rfl (show 1 ≤ 1000 by decide), (by decide : Byt [97]), (by decide : 1 ≤ 1048576)⟩
    · exact ⟨Reads.none _ _, (by decide : Byt []), (by decide : 0 ≤ 1048576)⟩
    · exact ⟨readsM (heap_alloc_mid w _ _ _) rfl rfl (show 2 ≤ 1000 by decide), (by decide : Byt [98, 99]), (by decide : 2 ≤ 1048576)⟩
  · rw [Nat.zero_add, cellM (heap_alloc_last w _ _ _)]
    rcases (show i = 0 ∨ i = 1 ∨ i = 2 by omega) with rfl | rfl | rfl <;> rfl

theorem abc_hex : hexL (u8s (mHash 2 [97, 98, 99])) = [98, 97, 55, 56, 49, 54, 98, 102, 56, 102, 48, 49, 99, 102, 101, 97, 52, 49, 52, 49, 52, 48, 100, 101, 53, 100, 97, 101, 50, 50, 50, 51, 98, 48, 48, 51, 54, 49, 97, 51, 57, 54, 49, 55, 55, 97, 57, 99, 98, 52, 49, 48, 102, 102, 54, 49, 102, 50, 48, 48, 49, 53, 97, 100] := by kernel_rfl
set_option maxHeartbeats 1000000 in
theorem alive_m (w : World) (hk : Kinds w) : Calls Tryd.prog 24 #[] w fun e w' => e = .returned (.bool true) ∧ Below w.heap.size w w' := by
  have HK := Lib.hid hk
  have HB0 := Lib.hid ((((Below.refl w.heap.size w).alloc (Nat.le_refl _) (.cells #[.int .u8 97] 5 (1, 2))).alloc (by simp) (.cells #[.int .u8 98, .int .u8 99] 5 (2, 3))).alloc (by simp; omega) (.cells #[.slice (some ⟨w.heap.size, 0, none⟩) 1 1, .slice none 0 0, .slice (some ⟨w.heap.size + 1, 0, none⟩) 2 2] 23))
  have HR := Lib.hid (abc_rows w)
  have cv1 := Joins.run_convert_bytes_const_at (P := Tryd.prog) w 23 5 #[.int .u8 97] 1 1 w.heap.size rfl Tryd.underlying23 Tryd.underlying5
  have cv2 := Joins.run_convert_bytes_const_at (P := Tryd.prog) (w.alloc (.cells #[.int .u8 97] 5 (1, 2))) 23 5 #[.int .u8 98, .int .u8 99] 2 2 (w.heap.size + 1) (by simp) Tryd.underlying23 Tryd.underlying5
  simp only [List.size_toArray, List.length_cons, List.length_nil, Nat.reduceAdd] at cv1 cv2
  clear hk
  go_enter Tryd.func24, Tryd.ntmps24
  go_wp2_with fail
  generalize ((w.alloc (.cells #[.int .u8 97] 5 (1, 2))).alloc (.cells #[.int .u8 98, .int .u8 99] 5 (2, 3))).alloc (.cells #[.slice (some ⟨w.heap.size, 0, none⟩) 1 1, .slice none 0 0, .slice (some ⟨w.heap.size + 1, 0, none⟩) 2 2] 23) = w1 at *
  refine (sum_yes 2 (by simp [IsHash]) _ 3 3 _ w1 (HK.out.below HB0.out) HR.out (by decide)).mono ?_
  rintro e w2 ⟨⟨ad, c, rfl, h1, -⟩, h3⟩
  have H1 := Lib.hid h1
  have HB2 := Lib.hid (HB0.out.trans (h3.mono HB0.out.size))
  clear h1 h3 cv1 cv2
  rw [show mSize 2 = 32 from rfl] at H1 ⊢
  go_wp2_with fail
  refine (size_yes 3 (by simp [IsHash]) w2 (HK.out.below HB2.out)).mono ?_
  rintro e w3 ⟨rfl, h3⟩
  rw [show mSize 3 = 48 from rfl]
  have H1 := Lib.hid (H1.out.below h3)
  have HB3 := Lib.hid (HB2.out.trans (h3.mono HB2.out.size))
  clear h3
  go_wp2_with fail
  refine (name_no 5 (by decide) w3).mono ?_
  rintro e w4 ⟨rfl, h3⟩
  have H1 := Lib.hid (H1.out.below h3)
  have HB4 := Lib.hid (HB3.out.trans (h3.mono HB3.out.size))
  clear h3
  go_wp2_with fail
  refine (named_any _ w4 (HK.out.below HB4.out)).mono ?_
  rintro e w5 ⟨rfl, h3⟩
  rw [show mNamed { data := #[115, 104, 97, 53, 49, 50] } = 4 by kernel_rfl]
  have H1 := Lib.hid (H1.out.below h3)
  have HB5 := Lib.hid (HB4.out.trans (h3.mono HB4.out.size))
  clear h3
  go_wp2_with fail
  refine (hex_any _ _ _ _ w5 (H1.out.bts (mHash_byt (by simp [IsHash]) _)) (by omega)).mono ?_
  rintro e w6 ⟨rfl, h3⟩
  have HB6 := Lib.hid (HB5.out.trans (h3.mono HB5.out.size))
  clear h3
  rw [show hexL (u8s (mHash 2 (flatM (abcR w.heap.size) 3))) = [98, 97, 55, 56, 49, 54, 98, 102, 56, 102, 48, 49, 99, 102, 101, 97, 52, 49, 52, 49, 52, 48, 100, 101, 53, 100, 97, 101, 50, 50, 50, 51, 98, 48, 48, 51, 54, 49, 97, 51, 57, 54, 49, 55, 55, 97, 57, 99, 98, 52, 49, 48, 102, 102, 54, 49, 102, 50, 48, 48, 49, 53, 97, 100] from abc_hex]
  go_wp2
  go_ret
  exact ⟨by simp [strOf], HB6.out⟩
end Go.Proofs.YtmfjhgjplmpecaaDoor

namespace Go.Proofs.YtmfjhgjplmpecaaDoor
open Go.RowKit Go.Shelf
set_option maxRecDepth 100000

theorem wpList_append_noughtsM {P : Program} (w : World) {ops : Array Oper} {rest : List Oper} {o : Oper} {a : Act} {Q : Exit → Act → World → Prop} (hgd : o.guard = .none) (s x : Operand) (t tn : TypeId)
    (ho : o.op = .call { callee := .builtin .append, args := #[s, x], argTypes := #[t, tn] })
    (B E : Nat) (i : TypeInfo) (ht : P.underlying t = some (.slice E)) (htn : P.underlying tn = some (.int .i64)) (hi : P.info? E = some i) (hz : i.zero = some (.int .u8 0)) (hsize : i.size = 1) (hby : i.bytes = 1)
    (v : Value) (l : List Nat) (hs : a.eval s = v) (hown : OwnQ .u8 E B w v l) (k : Nat) (hk0 : 0 < k) (hx : a.eval x = .int .i64 (k : Int)) (hb : l.length + k ≤ 140737488355328) (hk6 : k ≤ 1000000) (hbase : B ≤ w.heap.size)
    (h : ∀ v' w', OwnQ .u8 E B w' v' (l ++ List.replicate k 0) → (∀ w0, Below B w0 w → Below B w0 w') → wpList P ops Q rest (a.put o.dst v') w') : wpList P ops Q (o :: rest) a w := by
  rcases hown.form with ⟨ao, c, rfl, -, -⟩
  cases ao with
  | none =>
    have hl0 : l = [] := by
      rcases hown.2 with ⟨_, h0⟩ | ⟨g, _, _, e, _⟩
      · exact List.eq_nil_of_length_eq_zero h0
      · simp at e
    subst hl0
    have hc0 : c = 0 := by
      rcases hown.2 with ⟨e, _⟩ | ⟨g, _, _, e, _⟩
      · simpa using e
      · simp at e
    subst hc0
    have hold : (Builtin.firstCells i.size 0 (.slice none 0 0)).run P w.drew = .ok ([] : List Value).toArray w.drew := by simp [Builtin.firstCells]
    have hb' : k ≤ 140737488355328 := by simpa using hb
    have hfit : Builtin.nextslicecap (0 + k) 0 * i.bytes ≤ 281474976710656 := growslice_fits (by omega) (by rw [hby]; omega)
    have hrun := Lib.run_append_grow_zeros (P := P) w t tn o.type E i (.int .u8 0) .i64 .i64 ht htn hi hz none 0 0 [] hold k hk0 (by omega) (by omega) (by omega) (by rw [hby]; omega) hfit
    have hge := grownCap_ge w (0 + k) 0 E
    have hcm := grownCap_le_maxLen w (0 + k) 0 E (by unfold maxLen; omega)
    refine wpList_plain hgd fun K hK' => ?_
    unfold Oper.wp
    simp only [execOp, ho, resolve, invoke, builtin, Sem.run_bind, Sem.run_pure, Result.andThen_ok, List.map_toArray, List.map_cons, List.map_nil, hs, hx, List.length_nil, hrun]
    refine hK' _ _ (h _ _ ⟨by simp, .inr ⟨w.heap.size, _, _, ?_, hbase, heap_alloc_new w.drew _, ?_, hcm, ?_, ?_⟩⟩ (fun w0 hB => hB.drew.alloc (by simpa using hbase) _))
    · simp
    · simpa using hge
    · have hge2 := hge
      simp only [Nat.zero_add] at hge2
      simp only [Array.size_append, List.size_toArray, size_zeroCells, List.length_nil]
      simp [Value.cells]
      omega
    · rw [Array.toList_append, Array.toList_append, show (Value.int .u8 0).cells = #[Value.int .u8 0] from rfl, noughtCells]
      simp [num, List.take_append]
  | some ad =>
    obtain ⟨g, rfl⟩ : ∃ g, ad = ⟨g, 0, .none⟩ := by
      rcases hown.2 with ⟨e, _⟩ | ⟨g, _, _, e, _⟩
      · simp at e
      · simp only [Value.slice.injEq, Option.some.injEq] at e
        exact ⟨g, e.1⟩
    have hcap := hown.cap
    rcases Nat.lt_or_ge c (l.length + k) with hgr | hroom
    · have hold := run_firstCells_some (P := P) w.drew i.size l.length ⟨g, 0, .none⟩ l.length c (l.map (num .u8)) (by rw [hsize]; simp) (by
        intro j u hu
        have := hown.reads.news j u hu
        simpa using this)
      have hfit : Builtin.nextslicecap (l.length + k) c * i.bytes ≤ 281474976710656 := growslice_fits (by omega) (by rw [hby]; omega)
      have hrun := Lib.run_append_grow_zeros (P := P) w t tn o.type E i (.int .u8 0) .i64 .i64 ht htn hi hz (some ⟨g, 0, .none⟩) l.length c (l.map (num .u8)) hold k (by omega) (by omega) hgr (by omega) (by rw [hby]; omega) hfit
      have hge := grownCap_ge w (l.length + k) c E
      have hcm := grownCap_le_maxLen w (l.length + k) c E (by unfold maxLen; omega)
      refine wpList_plain hgd fun K hK' => ?_
      unfold Oper.wp
      simp only [execOp, ho, resolve, invoke, builtin, Sem.run_bind, Sem.run_pure, Result.andThen_ok, List.map_toArray, List.map_cons, List.map_nil, hs, hx, hrun]
      refine hK' _ _ (h _ _ ⟨by simp, .inr ⟨w.heap.size, _, _, ?_, hbase, heap_alloc_new w.drew _, ?_, hcm, ?_, ?_⟩⟩ (fun w0 hB => hB.drew.alloc (by simpa using hbase) _))
      · simp
      · simpa using hge
      · simp only [Array.size_append, List.size_toArray, size_zeroCells, List.length_map]
        simp [Value.cells]
        omega
      · rw [Array.toList_append, Array.toList_append, show (Value.int .u8 0).cells = #[Value.int .u8 0] from rfl, noughtCells]
        simp [num, List.take_append]
        exact List.take_of_length_le (by simp)
    · rcases hown.2 with ⟨h1, _⟩ | ⟨g', cap', cur, h1, hbg, hg, hnc, hcm, hcs, htake⟩
      · simp at h1
      · simp only [Value.slice.injEq, Option.some.injEq, Addr.mk.injEq, and_true, true_and] at h1
        obtain ⟨rfl, rfl⟩ := h1
        have hrun := run_append_room_zeros (P := P) w t tn o.type E i (.int .u8 0) .i64 .i64 ht htn hi hz rfl rfl hsize hby g l.length c cur hg k hroom (by omega) (by omega)
        refine wpList_plain hgd fun K hK' => ?_
        unfold Oper.wp
        simp only [execOp, ho, resolve, invoke, builtin, Sem.run_bind, Sem.run_pure, Result.andThen_ok, List.map_toArray, List.map_cons, List.map_nil, hs, hx, hrun]
        have hgrow : w.grownBy (w.setRow g (cur.toList.take l.length ++ List.replicate k (Value.int .u8 0) ++ cur.toList.drop (l.length + k)).toArray) (some g) := ⟨rfl, rfl, rfl, by simp, fun k' _ hk => setRow_other w g k' _ (fun e => hk (by simp [e]))⟩
        refine hK' _ _ (h _ _ ⟨by simp, .inr ⟨g, c, _, by simp, hbg, setRow_heap w g cur _ E _ hg, by simpa using hroom, hcm, ?_, ?_⟩⟩ (fun w0 hB => hB.grown hgrow hbase (fun r e => by cases e; exact hbg)))
        · simp
          omega
        · have : cur.toList.take l.length = l.map (num .u8) := by simpa using htake
          rw [this]
          simp [num, List.take_append]
          exact List.take_of_length_le (by simp)

theorem wpList_append_q1 {P : Program} (q : IntKind) (w : World) {ops : Array Oper} {rest : List Oper} {o : Oper} {a : Act} {Q : Exit → Act → World → Prop} (hgd : o.guard = .none) (s x : Operand) (t : TypeId)
    (ho : o.op = .call { callee := .builtin .append, args := #[s, x], argTypes := #[t, t] })
    (B E : Nat) (i : TypeInfo) (ht : P.underlying t = some (.slice E)) (hi : P.info? E = some i) (hz : i.zero = some (.int q 0)) (hsize : i.size = 1) (hby : i.bytes = 1)
    (v : Value) (l : List Nat) (hs : a.eval s = v) (hown : OwnQ q E B w v l) (ao : Option Addr) (m c : Nat) (l2 : List Nat) (hx : a.eval x = .slice ao m c) (hb : Reads q w ao m c l2)
    (hsum : l.length + m ≤ 140737488355328) (hbase : B ≤ w.heap.size)
    (h : ∀ v' w', OwnQ q E B w' v' (l ++ l2) → (∀ w0, Below B w0 w → Below B w0 w') → wpList P ops Q rest (a.put o.dst v') w') : wpList P ops Q (o :: rest) a w := by
  have hlen := hb.length
  have hbb : (l.length + m) * 1 ≤ 140737488355328 := by omega
  cases ao with
  | some ad =>
    refine wpList_append_own w hgd s x t ho B E i (.int q 0) 1 1 ht hi hz hsize hby rfl (by decide) v l.length (l.map (num q)) hs hown ad m c (l2.map (num q)) hx (by simpa using hlen) hb.news (nums_oneCell _ _) (by unfold maxLen; omega) hbb hbase ?_
    intro v' w' ho' hg _
    refine h v' w' ?_ (fun w0 h0 => h0.grown hg hbase (fun k hk => (hown.lt k hk).1))
    unfold OwnQ
    rw [List.map_append, List.length_append, hlen]
    exact ho'
  | none =>
    have hc := hb.nil rfl
    have hle := hb.le
    obtain rfl : m = 0 := by omega
    obtain rfl : l2 = [] := List.eq_nil_of_length_eq_zero hlen
    subst hc
    refine wpList_plain hgd fun K hK' => ?_
    have hrun := run_append_owned_none (P := P) w B t o.type E i 1 ht hi v l.length (l.map (num q)) hown
    unfold Oper.wp
    simp [execOp, ho, resolve, invoke, builtin, hs, hx, hrun, Result.andThen]
    exact hK' _ _ (by simpa using h v w (by simpa using hown) (fun _ h0 => h0))

theorem rows_alloc (W0 W : World) (cs : Array Value) (n : Nat) (R : Nat → Option Addr × Nat × Nat × List Nat) {E : TypeId} (hb : Below W0.heap.size W0 W) (hr : ∀ i, i < n → Reads .u8 W0 (R i).1 (R i).2.1 (R i).2.2.1 (R i).2.2.2 ∧ Byt (R i).2.2.2 ∧ (R i).2.1 ≤ 1048576)
    (hc : ∀ i, i < n → cs[i]? = some (.slice (R i).1 (R i).2.1 (R i).2.2.1)) : RowsM (W.alloc (.cells cs E)) (some ⟨W.heap.size, 0, none⟩) n R :=
  ⟨fun i hi => ⟨((hr i hi).1.below hb).below ((Below.refl _ _).alloc (Nat.le_refl _) _), (hr i hi).2⟩, fun _ => ⟨_, 0, rfl, by simp, fun i hi => by
    rw [Nat.zero_add, cellM (World.alloc_heap_new W _)]
    exact hc i hi⟩⟩
theorem hash_m (n : Nat) (hn : n < 256) (w : World) : Calls Tryd.prog 25 #[.int .u8 (n : Int)] w fun e w' => e = .returned (.int .i64 ((1 + n % 4 : Nat) : Int)) ∧ w = w' := by
  obtain ⟨r, hr⟩ : ∃ r, r = n % 4 := ⟨_, rfl⟩
  have hm : Int.tmod (n : Int) 4 = (r : Int) := by
    rw [Int.tmod_eq_emod_of_nonneg (by omega)]
    omega
  have hr4 : r < 4 := by omega
  have hw : IntKind.u8.wrap (1 + (r : Int)) = ((1 + r : Nat) : Int) := by rw [IntKind.wrap_u8]; omega
  have hw2 : IntKind.u8.wrap (r : Int) = (r : Int) := by rw [IntKind.wrap_u8]; omega
  rw [← hr]
  clear hr
  go_enter Tryd.func25, Tryd.ntmps25
  go_wp2
  go_ret
  exact ⟨by simp, rfl⟩
theorem isHash_m (n : Nat) : IsHash (1 + n % 4) := by unfold IsHash; omega

end Go.Proofs.YtmfjhgjplmpecaaDoor
