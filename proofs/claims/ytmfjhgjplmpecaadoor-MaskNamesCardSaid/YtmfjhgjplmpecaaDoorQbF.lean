/-
  SHA-512: appended, ending.
-/
import Derived.Test.YtmfjhgjplmpecaaDoorQbE
import Derived.Lib.AppendZerosOnto
import Derived.Laws.OwnMore
namespace Go.Proofs.YtmfjhgjplmpecaaDoor.L5
open Go.RowKit
set_option maxRecDepth 100000

theorem noughtCells (v : Value) (n : Nat) : (Builtin.zeroCells #[v] n).toList = List.replicate n v := by
  apply List.ext_getElem
  · simp [Builtin.zeroCells]
  · intro i h1 h2
    simp [Builtin.zeroCells, Nat.mod_one]
/-- 'append(s, make([]byte, k)...)' where s has room. -/
theorem run_append_room_zeros {P : Program} (w : World) (t tn ty e : TypeId) (i : TypeInfo) (z : Value) (kq kn : IntKind) (ht : P.underlying t = some (.slice e)) (htn : P.underlying tn = some (.int kn)) (hi : P.info? e = some i) (hz : i.zero = some z) (hzc : z.cells = #[z]) (hz1 : z.oneCell' = true) (hs : i.size = 1) (hby : i.bytes = 1)
    (g sLen sCap : Nat) (cur : Array Value) (hg : w.heap[g]? = some (.cells cur e (0, 0))) (k : Nat) (hroom : sLen + k ≤ sCap) (hc : cur.size = sCap) (hm : k ≤ 1000000) :
    (Builtin.append_ #[t, tn] ty #[.slice (some ⟨g, 0, none⟩) sLen sCap, .int kq k]).run P w =
      .ok (.slice (some ⟨g, 0, none⟩) (sLen + k) sCap) (w.setRow g (cur.toList.take sLen ++ List.replicate k z ++ cur.toList.drop (sLen + k)).toArray) := by
  have hw : IntKind.i64.wrap (k : Int) = k := by rw [IntKind.wrap_i64]; omega
  have hneg : ¬ ((k : Int) < 0) := by omega
  have h48i : ¬ (281474976710656 < (k : Int)) := by omega
  have hl : (List.replicate k z).length = k := by simp
  have hst := run_storeCells_at P g sLen e (List.replicate k z) 0 cur w hg (by rw [hl, hc]; omega) (fun v hv => by rw [List.eq_of_mem_replicate hv]; exact hz1)
  rw [hl] at hst
  simp only [Nat.add_zero] at hst
  rcases Nat.eq_zero_or_pos k with rfl | h0
  · have hw0 : IntKind.i64.wrap 0 = 0 := by rw [IntKind.wrap_i64]; rfl
    have hroom0 : sLen ≤ sCap := by omega
    have hst0 : Sem.run P (storeCells { block := g, off := sLen } []) w = Result.ok () (w.setRow g cur) := by simpa using hst
    simp [Builtin.append_, run_underlying ht, run_underlying htn, sizeOf, typeInfo, zeroValue, hi, hz, asInt, asIntOf, hw0, hs, hby, hroom0, Addr.add_lit, hst0]
  · have hk : k ≠ 0 := by omega
    have hcells : (Builtin.zeroCells #[z] k).toList = List.replicate k z := noughtCells z k
    simp [Builtin.append_, run_underlying ht, run_underlying htn, sizeOf, typeInfo, zeroValue, hi, hz, asInt, asIntOf, hw, hneg, hs, hby, hk, hroom, h48i, Addr.add_lit, hzc, hcells, hst]

theorem wpList_append_noughts {P : Program} (w : World) {ops : Array Oper} {rest : List Oper} {o : Oper} {a : Act} {Q : Exit → Act → World → Prop} (hgd : o.guard = .none) (s x : Operand) (t tn : TypeId)
    (ho : o.op = .call { callee := .builtin .append, args := #[s, x], argTypes := #[t, tn] })
    (B E : Nat) (i : TypeInfo) (ht : P.underlying t = some (.slice E)) (htn : P.underlying tn = some (.int .i64)) (hi : P.info? E = some i) (hz : i.zero = some (.int .u8 0)) (hsize : i.size = 1) (hby : i.bytes = 1)
    (v : Value) (l : List Nat) (hs : a.eval s = v) (hown : OwnQ .u8 E B w v l) (hl : l ≠ []) (k : Nat) (hx : a.eval x = .int .i64 (k : Int)) (hb : l.length + k ≤ 1000000) (hbase : B ≤ w.heap.size)
    (h : ∀ v' w', OwnQ .u8 E B w' v' (l ++ List.replicate k 0) → (∀ w0, Below B w0 w → Below B w0 w') → wpList P ops Q rest (a.put o.dst v') w') : wpList P ops Q (o :: rest) a w := by
  obtain ⟨g, c, rfl⟩ := hown.succ hl
  have hcap := hown.cap
  rcases Nat.lt_or_ge c (l.length + k) with hgr | hroom
  · have hold := run_firstCells_some (P := P) w.drew i.size l.length ⟨g, 0, .none⟩ l.length c (l.map (num .u8)) (by rw [hsize]; simp) (by
      intro j u hu
      have := hown.reads.news j u hu
      simpa using this)
    have hfit : Builtin.nextslicecap (l.length + k) c * i.bytes ≤ 281474976710656 := growslice_fits (by omega) (by rw [hby]; omega)
    have hrun := Lib.run_append_grow_zeros (P := P) w t tn o.type E i (.int .u8 0) .i64 .i64 ht htn hi hz (some ⟨g, 0, .none⟩) l.length c (l.map (num .u8)) hold k (by omega) (by omega) hgr (by omega) (by rw [hby]; omega) hfit
    have hge := grownCap_ge w (l.length + k) c E
    have hcm := grownCap_le_maxLen w (l.length + k) c E (by unfold maxLen; omega)
    refine wpList_plain hgd fun K hK' => ?_
    unfold Oper.wp
    simp only [execOp, ho, resolve, invoke, builtin, Sem.run_bind, Sem.run_pure, Result.andThen_ok, List.map_toArray, List.map_cons, List.map_nil, hs, hx, hrun]
    refine hK' _ _ (h _ _ ⟨by simp, .inr ⟨w.heap.size, _, _, ?_, hbase, heap_alloc_new w.drew _, ?_, hcm, ?_, ?_⟩⟩ (fun w0 hB => hB.drew.alloc (by simpa using hbase) _))
    · simp
    · simpa using hge
    · simp only [Array.size_append, List.size_toArray, size_zeroCells, List.length_map]
      simp [Value.cells]
      omega
    · rw [Array.toList_append, Array.toList_append, show (Value.int .u8 0).cells = #[Value.int .u8 0] from rfl, noughtCells]
      simp [num, List.take_append]
      exact List.take_of_length_le (by simp)
  · rcases hown.2 with ⟨h1, _⟩ | ⟨g', cap', cur, h1, hbg, hg, hnc, hcm, hcs, htake⟩
    · simp at h1
    · simp only [Value.slice.injEq, Option.some.injEq, Addr.mk.injEq, and_true, true_and] at h1
      obtain ⟨rfl, rfl⟩ := h1
      have hrun := run_append_room_zeros (P := P) w t tn o.type E i (.int .u8 0) .i64 .i64 ht htn hi hz rfl rfl hsize hby g l.length c cur hg k hroom (by omega) (by omega)
      refine wpList_plain hgd fun K hK' => ?_
      unfold Oper.wp
      simp only [execOp, ho, resolve, invoke, builtin, Sem.run_bind, Sem.run_pure, Result.andThen_ok, List.map_toArray, List.map_cons, List.map_nil, hs, hx, hrun]
      have hgrow : w.grownBy (w.setRow g (cur.toList.take l.length ++ List.replicate k (Value.int .u8 0) ++ cur.toList.drop (l.length + k)).toArray) (some g) := ⟨rfl, rfl, rfl, by simp, fun k' _ hk => setRow_other w g k' _ (fun e => hk (by simp [e]))⟩
      refine hK' _ _ (h _ _ ⟨by simp, .inr ⟨g, c, _, by simp, hbg, setRow_heap w g cur _ E _ hg, by simpa using hroom, hcm, ?_, ?_⟩⟩ (fun w0 hB => hB.grown hgrow hbase (fun r e => by cases e; exact hbg)))
      · simp
        omega
      · have : cur.toList.take l.length = l.map (num .u8) := by simpa using htake
        rw [this]
        simp [num, List.take_append]
        exact List.take_of_length_le (by simp)

theorem owned_nums {q : IntKind} {E B n : Nat} {w : World} {v : Value} {l : List Nat} (h : w.ownsRow B E 1 v n (l.map (num q))) : OwnQ q E B w v l := by
  have := h.1
  rw [List.length_map, Nat.mul_one] at this
  subst this
  exact h

theorem infoB : (Tryd.prog.info? 5).map (fun i => (i.zero, i.size, i.bytes)) = some (some (.int .u8 0), 1, 1) := by kernel_rfl
theorem idx2 (l : List Nat) (i : Nat) (hi : i < 2) (hl : l.length = 2) (w : World) : (Instr.index 119 (.agg (arrC .u64 l)) (.int .i64 (i : Int))).run Tryd.prog w = .ok (.int .u64 ((l[i]?.getD 0 : Nat) : Int)) w := by
  have hu : ∀ w, (underlying 119).run Tryd.prog w = .ok (.array 2 75) w := fun _ => by kernel_rfl
  have hs : ∀ w, (sizeOf 75).run Tryd.prog w = .ok 1 w := fun _ => by kernel_rfl
  have ha : ∀ w, (isAgg 75).run Tryd.prog w = .ok false w := fun _ => by kernel_rfl
  have hg := arrC_get .u64 l i (by omega)
  have hz : i < (arrC .u64 l).size := by rw [arrC_size]; omega
  have h1 : 0 ≤ (i : Int) ∧ (i : Int) < ((2 : Nat) : Int) := by omega
  unfold Instr.index
  simp only [asIntOf, Sem.run_bind, Sem.run_pure, Result.andThen_ok, hu, if_pos h1, hs, Int.toNat_natCast, Nat.mul_one, part, ha]
  rw [hg]
  rfl

/-- A word's first bytes, the highest one first. -/
def wd (x : Nat) (j : Nat) : List Nat := (List.range j).map fun i => x / 2 ^ (8 * (7 - i)) % 256
theorem wd_succ (x j : Nat) : wd x (j + 1) = wd x j ++ [x / 2 ^ (8 * (7 - j)) % 256] := by
  unfold wd
  rw [List.range_succ, List.map_append]
  rfl
theorem wd_len (x j : Nat) : (wd x j).length = j := by simp [wd]
theorem wd_lt (x j : Nat) : ∀ y ∈ wd x j, y < 256 := fun y hy => by
  obtain ⟨i, -, rfl⟩ := List.mem_map.1 hy
  exact Nat.mod_lt _ (by decide)
theorem byte_cast (x k : Nat) : (x : Int) / 2 ^ k % 256 = ((x / 2 ^ k % 256 : Nat) : Int) := by rw [Int.natCast_emod, Int.natCast_ediv, Int.natCast_pow]; rfl
set_option maxHeartbeats 1000000 in
theorem appended_any (B : Nat) (v : Value) (l : List Nat) (x : Nat) (y : Int) (w : World) (ho : OwnQ .u8 5 B w v l) (hl : l.length ≤ 100000) (hB : B ≤ w.heap.size) (hy : y = x) (hx : x < 18446744073709551616) :
    Calls Tryd.prog 59 #[v, .int .u64 y] w fun e w' => (∃ v', e = .returned v' ∧ OwnQ .u8 5 B w' v' (l ++ wd x 8)) ∧ (∀ w0, Below B w0 w → Below B w0 w') := by
  subst hy
  obtain ⟨i0, hi, hz0, hz1, hz2⟩ := info_parts infoB
  have HO := Lib.hid ho
  have HBB := Lib.hid (show Below B w w from Below.refl _ _)
  clear ho
  go_enter Tryd.func59, Tryd.ntmps59
  go_wp2_with fail
  go_loopw [0, 6] (fun sv iv wq => ∃ j : Nat, iv = .int .i64 (j : Int) ∧ j ≤ 8 ∧ Hid (OwnQ .u8 5 B wq sv (l ++ wd x j) ∧ ∀ w0, Below B w0 w → Below B w0 wq)) (fun _ iv _ => 8 - (intOf iv).toNat)
  case atStart => exact ⟨0, rfl, by decide, by rw [show wd x 0 = [] from rfl, List.append_nil]; exact HO.out, fun _ h => h⟩
  case round =>
    obtain ⟨j, rfl, hj, hI⟩ := hrel
    obtain ⟨ho2, hb2⟩ := hI.out
    have HO2 := Lib.hid ho2
    have HB2 := Lib.hid hb2
    have hsz : Hid (B ≤ wr.heap.size) := Nat.le_trans hB (hb2 w HBB.out).size
    clear ho2 hb2
    by_cases hlt : j < 8
    · go_wp2_with (at_builtin; refine wpList_append_q .u8 _ rfl _ _ 23 rfl B 5 1 i0 Tryd.underlying23 hi hz0 hz1 hz2 (by decide) _ (l ++ wd x j) rfl (HO2.out.alloc _) _ _ _ [x / 2 ^ (8 * (7 - j)) % 256] rfl (Reads.one .u8 _ _ _ _ (byte_cast x _)) (by rw [List.length_append, wd_len]; omega) (by have := hsz.out; simp; omega) ?_; intro v' w3 hown3 hgrow3)
      go_roundw
      case rel => exact ⟨j + 1, by go_num, by omega, by rw [wd_succ, ← List.append_assoc]; exact hown3, fun w0 h0 => hgrow3 _ ((HB2.out w0 h0).alloc hsz.out _)⟩
      case measure => simp [intOf] <;> omega
    · obtain rfl : j = 8 := by omega
      go_wp2
      go_ret
      exact ⟨⟨_, rfl, HO2.out⟩, HB2.out⟩

end Go.Proofs.YtmfjhgjplmpecaaDoor.L5
