/-
  EIGHT BYTES AS ONE NUMBER: unicode/utf8's word, of bytes.
-/
import Derived.Test.YtkmphiakciihfaaDoorTcAB
import Derived.Lib.EndianBits
import Derived.Lib.Endian
namespace Go.Proofs.YtkmphiakciihfaaDoor
open Go.RowKit

def wordN (l : List Nat) : Nat := gN l 0 + gN l 1 * 256 + gN l 2 * 65536 + gN l 3 * 16777216 + gN l 4 * 4294967296 + gN l 5 * 1099511627776 + gN l 6 * 281474976710656 + gN l 7 * 72057594037927936

set_option maxHeartbeats 8000000 in
set_option maxRecDepth 100000 in
theorem word_any (a : Option Addr) (len cap : Nat) (l : List Nat) (w : World) (h : Reads .u8 w a len cap l) (hx : ∀ x ∈ l, x < 256) (h8 : 8 ≤ len) :
    Calls Tryd.prog 95 #[.slice a len cap] w fun e w' => e = .returned (.int .u64 (wordN l : Nat)) ∧ ∃ n, w' = w.drewN n := by
  have hm := h.len_le
  unfold maxLen at hm
  obtain ⟨b, off, rfl, hlt, hc⟩ := h.cells (by omega)
  have c0 : w.cell? ⟨b, off, none⟩ = _ := hc 0 (by omega)
  have c1 := hc 1 (by omega)
  have c2 := hc 2 (by omega)
  have c3 := hc 3 (by omega)
  have c4 := hc 4 (by omega)
  have c5 := hc 5 (by omega)
  have c6 := hc 6 (by omega)
  have c7 := hc 7 (by omega)
  have q0 : (0 : Int) < (len : Int) := by omega
  have p0 : 0 < len := by omega
  have x0 := gN_lt hx 0
  have q1 : (1 : Int) < (len : Int) := by omega
  have p1 : 1 < len := by omega
  have x1 := gN_lt hx 1
  have q2 : (2 : Int) < (len : Int) := by omega
  have p2 : 2 < len := by omega
  have x2 := gN_lt hx 2
  have q3 : (3 : Int) < (len : Int) := by omega
  have p3 : 3 < len := by omega
  have x3 := gN_lt hx 3
  have q4 : (4 : Int) < (len : Int) := by omega
  have p4 : 4 < len := by omega
  have x4 := gN_lt hx 4
  have q5 : (5 : Int) < (len : Int) := by omega
  have p5 : 5 < len := by omega
  have x5 := gN_lt hx 5
  have q6 : (6 : Int) < (len : Int) := by omega
  have p6 : 6 < len := by omega
  have x6 := gN_lt hx 6
  have q7 : (7 : Int) < (len : Int) := by omega
  have p7 : 7 < len := by omega
  have x7 := gN_lt hx 7
  have HV := Lib.hid (show ((wordN l : Nat) : Int) = (gN l 0 : Int) + (gN l 1 : Int) * 256 + (gN l 2 : Int) * 65536 + (gN l 3 : Int) * 16777216 + (gN l 4 : Int) * 4294967296 + (gN l 5 : Int) * 1099511627776 + (gN l 6 : Int) * 281474976710656 + (gN l 7 : Int) * 72057594037927936 by unfold wordN; omega)
  simp only [show (l[0]?.getD 0) = gN l 0 from rfl] at c0
  simp only [show (l[1]?.getD 0) = gN l 1 from rfl] at c1
  simp only [show (l[2]?.getD 0) = gN l 2 from rfl] at c2
  simp only [show (l[3]?.getD 0) = gN l 3 from rfl] at c3
  simp only [show (l[4]?.getD 0) = gN l 4 from rfl] at c4
  simp only [show (l[5]?.getD 0) = gN l 5 from rfl] at c5
  simp only [show (l[6]?.getD 0) = gN l 6 from rfl] at c6
  simp only [show (l[7]?.getD 0) = gN l 7 from rfl] at c7
  clear hc h hx h8
  generalize gN l 0 = g0 at *
  generalize gN l 1 = g1 at *
  generalize gN l 2 = g2 at *
  generalize gN l 3 = g3 at *
  generalize gN l 4 = g4 at *
  generalize gN l 5 = g5 at *
  generalize gN l 6 = g6 at *
  generalize gN l 7 = g7 at *
  go_enter Tryd.func95, Tryd.ntmps95
  go_wp2
  go_big_quiet (fail)
  go_wp2
  go_ret
  refine ⟨?_, _, rfl⟩
  rw [HV.out]
  simp (disch := omega) only [u64_wrap_id, u64_or8, u64_or16, u64_or24, u64_or32, u64_or40, u64_or48, u64_or56]
  rfl

end Go.Proofs.YtkmphiakciihfaaDoor
