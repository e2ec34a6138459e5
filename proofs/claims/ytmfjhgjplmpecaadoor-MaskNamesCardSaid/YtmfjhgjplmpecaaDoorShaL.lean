/-
  SHA-256: an append of noughts to a row of one's own; what fills a message up.
-/
import Derived.Test.YtmfjhgjplmpecaaDoorShaK
import Derived.Lib.AppendZerosOnto
import Derived.Laws.OwnMore
namespace Go.Proofs.YtmfjhgjplmpecaaDoor
open Go.RowKit Go.Shelf
set_option maxRecDepth 100000

theorem noughtCells (v : Value) (n : Nat) : (Builtin.zeroCells #[v] n).toList = List.replicate n v := by
  apply List.ext_getElem
  · simp [Builtin.zeroCells]
  · intro i h1 h2
    simp [Builtin.zeroCells, Nat.mod_one]
/-- 'append(s, make([]byte, k)...)' where s has room. -/
theorem run_append_room_zeros {P : Program} (w : World) (t tn ty e : TypeId) (i : TypeInfo) (z : Value) (kq kn : IntKind) (ht : P.underlying t = some (.slice e)) (htn : P.underlying tn = some (.int kn)) (hi : P.info? e = some i) (hz : i.zero = some z) (hzc : z.cells = #[z]) (hz1 : z.oneCell' = true) (hs : i.size = 1) (hby : i.bytes = 1)
    (g sLen sCap : Nat) (cur : Array Value) (hg : w.heap[g]? = some (.cells cur e (0, 0))) (k : Nat) (hroom : sLen + k ≤ sCap) (hc : cur.size = sCap) (hm : k ≤ 1000000) :
    (Builtin.append_ #[t, tn] ty #[.slice (some ⟨g, 0, none⟩) sLen sCap, .int kq k]).run P w =
      .ok (.slice (some ⟨g, 0, none⟩) (sLen + k) sCap) (w.setRow g (cur.toList.take sLen ++ List.replicate k z ++ cur.toList.drop (sLen + k)).toArray) := by
  have hw : IntKind.i64.wrap (k : Int) = k := by rw [IntKind.wrap_i64]; omega
  have hneg : ¬ ((k : Int) < 0) := by omega
  have h48i : ¬ (281474976710656 < (k : Int)) := by omega
  have hl : (List.replicate k z).length = k := by simp
  have hst := run_storeCells_at P g sLen e (List.replicate k z) 0 cur w hg (by rw [hl, hc]; omega) (fun v hv => by rw [List.eq_of_mem_replicate hv]; exact hz1)
  rw [hl] at hst
  simp only [Nat.add_zero] at hst
  rcases Nat.eq_zero_or_pos k with rfl | h0
  · have hw0 : IntKind.i64.wrap 0 = 0 := by rw [IntKind.wrap_i64]; rfl
    have hroom0 : sLen ≤ sCap := by omega
    have hst0 : Sem.run P (storeCells { block := g, off := sLen } []) w = Result.ok () (w.setRow g cur) := by simpa using hst
    simp [Builtin.append_, run_underlying ht, run_underlying htn, sizeOf, typeInfo, zeroValue, hi, hz, asInt, asIntOf, hw0, hs, hby, hroom0, Addr.add_lit, hst0]
  · have hk : k ≠ 0 := by omega
    have hcells : (Builtin.zeroCells #[z] k).toList = List.replicate k z := noughtCells z k
    simp [Builtin.append_, run_underlying ht, run_underlying htn, sizeOf, typeInfo, zeroValue, hi, hz, asInt, asIntOf, hw, hneg, hs, hby, hk, hroom, h48i, Addr.add_lit, hzc, hcells, hst]

theorem wpList_append_noughts {P : Program} (w : World) {ops : Array Oper} {rest : List Oper} {o : Oper} {a : Act} {Q : Exit → Act → World → Prop} (hgd : o.guard = .none) (s x : Operand) (t tn : TypeId)
    (ho : o.op = .call { callee := .builtin .append, args := #[s, x], argTypes := #[t, tn] })
    (B E : Nat) (i : TypeInfo) (ht : P.underlying t = some (.slice E)) (htn : P.underlying tn = some (.int .i64)) (hi : P.info? E = some i) (hz : i.zero = some (.int .u8 0)) (hsize : i.size = 1) (hby : i.bytes = 1)
    (v : Value) (l : List Nat) (hs : a.eval s = v) (hown : OwnQ .u8 E B w v l) (hl : l ≠ []) (k : Nat) (hx : a.eval x = .int .i64 (k : Int)) (hb : l.length + k ≤ 1000000) (hbase : B ≤ w.heap.size)
    (h : ∀ v' w', OwnQ .u8 E B w' v' (l ++ List.replicate k 0) → (∀ w0, Below B w0 w → Below B w0 w') → wpList P ops Q rest (a.put o.dst v') w') : wpList P ops Q (o :: rest) a w := by
  obtain ⟨g, c, rfl⟩ := hown.succ hl
  have hcap := hown.cap
  rcases Nat.lt_or_ge c (l.length + k) with hgr | hroom
  · have hold := run_firstCells_some (P := P) w.drew i.size l.length ⟨g, 0, .none⟩ l.length c (l.map (num .u8)) (by rw [hsize]; simp) (by
      intro j u hu
      have := hown.reads.news j u hu
      simpa using this)
    have hfit : Builtin.nextslicecap (l.length + k) c * i.bytes ≤ 281474976710656 := growslice_fits (by omega) (by rw [hby]; omega)
    have hrun := Lib.run_append_grow_zeros (P := P) w t tn o.type E i (.int .u8 0) .i64 .i64 ht htn hi hz (some ⟨g, 0, .none⟩) l.length c (l.map (num .u8)) hold k (by omega) (by omega) hgr (by omega) (by rw [hby]; omega) hfit
    have hge := grownCap_ge w (l.length + k) c E
    have hcm := grownCap_le_maxLen w (l.length + k) c E (by unfold maxLen; omega)
    refine wpList_plain hgd fun K hK' => ?_
    unfold Oper.wp
    simp only [execOp, ho, resolve, invoke, builtin, Sem.run_bind, Sem.run_pure, Result.andThen_ok, List.map_toArray, List.map_cons, List.map_nil, hs, hx, hrun]
    refine hK' _ _ (h _ _ ⟨by simp, .inr ⟨w.heap.size, _, _, ?_, hbase, heap_alloc_new w.drew _, ?_, hcm, ?_, ?_⟩⟩ (fun w0 hB => hB.drew.alloc (by simpa using hbase) _))
    · simp
    · simpa using hge
    · simp only [Array.size_append, List.size_toArray, size_zeroCells, List.length_map]
      simp [Value.cells]
      omega
    · rw [Array.toList_append, Array.toList_append, show (Value.int .u8 0).cells = #[Value.int .u8 0] from rfl, noughtCells]
      simp [num, List.take_append]
      exact List.take_of_length_le (by simp)
  · rcases hown.2 with ⟨h1, _⟩ | ⟨g', cap', cur, h1, hbg, hg, hnc, hcm, hcs, htake⟩
    · simp at h1
    · simp only [Value.slice.injEq, Option.some.injEq, Addr.mk.injEq, and_true, true_and] at h1
      obtain ⟨rfl, rfl⟩ := h1
      have hrun := run_append_room_zeros (P := P) w t tn o.type E i (.int .u8 0) .i64 .i64 ht htn hi hz rfl rfl hsize hby g l.length c cur hg k hroom (by omega) (by omega)
      refine wpList_plain hgd fun K hK' => ?_
      unfold Oper.wp
      simp only [execOp, ho, resolve, invoke, builtin, Sem.run_bind, Sem.run_pure, Result.andThen_ok, List.map_toArray, List.map_cons, List.map_nil, hs, hx, hrun]
      have hgrow : w.grownBy (w.setRow g (cur.toList.take l.length ++ List.replicate k (Value.int .u8 0) ++ cur.toList.drop (l.length + k)).toArray) (some g) := ⟨rfl, rfl, rfl, by simp, fun k' _ hk => setRow_other w g k' _ (fun e => hk (by simp [e]))⟩
      refine hK' _ _ (h _ _ ⟨by simp, .inr ⟨g, c, _, by simp, hbg, setRow_heap w g cur _ E _ hg, by simpa using hroom, hcm, ?_, ?_⟩⟩ (fun w0 hB => hB.grown hgrow hbase (fun r e => by cases e; exact hbg)))
      · simp
        omega
      · have : cur.toList.take l.length = l.map (num .u8) := by simpa using htake
        rw [this]
        simp [num, List.take_append]
        exact List.take_of_length_le (by simp)

theorem OwnQ.made {q : IntKind} {E : TypeId} {B : Nat} {w : World} {g n : Nat} {z : List Value} (h : w.ownsRow B E 1 (.slice (some ⟨g, 0, none⟩) n n) n z) (hz : z = (madeCells (Value.int q 0).cells (n * 1)).toList) : OwnQ q E B w (.slice (some ⟨g, 0, none⟩) n n) (List.replicate n 0) := by
  unfold OwnQ
  rw [← zeros_q, ← hz]
  simpa using h
/-- 'make' with room beyond its length. -/
theorem wpList_make_room {P : Program} (q : IntKind) (w : World) {ops : Array Oper} {rest : List Oper} {o : Oper} {a : Act} {Q : Exit → Act → World → Prop}
    (hg : o.guard = none) (l c : Operand) (t : TypeId) (hop : o.op = Op.makeSlice t l c)
    (base : Nat) (e : TypeId) (i : TypeInfo) (h1 : P.underlying t = some (.slice e)) (h2 : P.info? e = some i) (h3 : i.zero = some (.int q 0)) (h4 : i.size = 1)
    (kl kc : IntKind) (L C : Int) (m n : Nat) (hl : a.eval l = .int kl L) (hc : a.eval c = .int kc C) (hL : L = (m : Int)) (hC : C = (n : Int)) (hmn : m ≤ n) (b2 : i.bytes * n ≤ 281474976710656) (b3 : n ≤ maxLen) (b4 : base ≤ w.heap.size)
    (hK : ∀ w', OwnQ q e base w' (.slice (some ⟨w.heap.size, 0, none⟩) m n) (List.replicate m 0) → w.grownBy w' none → wpList P ops Q rest (a.put o.dst (.slice (some ⟨w.heap.size, 0, none⟩) m n)) w') :
    wpList P ops Q (o :: rest) a w := by
  refine wpList_plain hg fun K hK' => ?_
  subst hL
  subst hC
  have h63' : (n : Int) ≤ 9223372036854775807 := by
    have h := b3
    simp [maxLen] at h
    omega
  have hb' : (i.bytes : Int) * (n : Int) ≤ 281474976710656 := by
    have h : ((i.bytes * n : Nat) : Int) ≤ 281474976710656 := by omega
    rwa [Int.natCast_mul] at h
  have hr := run_make (P := P) w t e i (.int q 0) h1 h2 h3 kl kc m n (by omega) (by omega) hb' h63'
  simp only [Int.toNat_natCast] at hr
  have hown : OwnQ q e base (w.alloc (.cells (madeCells (Value.int q 0).cells (n * i.size)) e)) (.slice (some ⟨w.heap.size, 0, none⟩) n n) (List.replicate n 0) := by
    rw [h4]
    exact OwnQ.made (World.ownsRow_lit w _ n b4 b3 (size_madeCells _ _)) rfl
  have hup := hown.upto m hmn
  rw [List.take_replicate, Nat.min_eq_left hmn] at hup
  unfold Oper.wp
  simp [execOp, hop, hl, hc, hr, Result.andThen]
  exact hK' _ _ (hK _ hup (World.grownBy_alloc w _ none))

theorem reads_four (q : IntKind) (w : World) (E : TypeId) (x0 x1 x2 x3 : Int) (c0 c1 c2 c3 : Nat) (h0 : x0 = c0) (h1 : x1 = c1) (h2 : x2 = c2) (h3 : x3 = c3) : Reads q (w.alloc (.cells #[.int q x0, .int q x1, .int q x2, .int q x3] E)) (some ⟨w.heap.size, 0, .none⟩) 4 4 [c0, c1, c2, c3] := by
  subst h0 h1 h2 h3
  have h : OwnQ q E 0 (w.alloc (.cells #[.int q c0, .int q c1, .int q c2, .int q c3] E)) (.slice (some ⟨w.heap.size, 0, .none⟩) 4 4) [c0, c1, c2, c3] := World.ownsRow_lit w #[.int q c0, .int q c1, .int q c2, .int q c3] 4 (Nat.zero_le _) (by unfold maxLen; omega) rfl
  exact h.reads

/-- What fills a message up: a bit, noughts, and how many bits there are. -/
def lenB (T : Nat) (j : Nat) : List Nat := (List.range j).map fun i => T * 8 / 2 ^ (8 * (7 - i)) % 256
theorem lenB_succ (T j : Nat) : lenB T (j + 1) = lenB T j ++ [T * 8 / 2 ^ (8 * (7 - j)) % 256] := by
  unfold lenB
  rw [List.range_succ, List.map_append]
  rfl
theorem lenB_len (T j : Nat) : (lenB T j).length = j := by simp [lenB]
theorem lenB_lt (T j : Nat) : ∀ x ∈ lenB T j, x < 256 := fun x hx => by
  obtain ⟨i, -, rfl⟩ := List.mem_map.1 hx
  exact Nat.mod_lt _ (by decide)
def restN (m : List Nat) : List Nat := m.drop (64 * (m.length / 64)) ++ [128] ++ List.replicate ((119 - m.length % 64) % 64) 0 ++ lenB m.length 8
theorem restN_len (m : List Nat) : (restN m).length = 64 ∨ (restN m).length = 128 := by
  unfold restN
  simp only [List.length_append, List.length_drop, List.length_replicate, lenB_len, List.length_singleton]
  omega
theorem restN_lt {m : List Nat} (h : ∀ x ∈ m, x < 256) : ∀ x ∈ restN m, x < 256 := fun x hx => by
  unfold restN at hx
  simp only [List.mem_append, List.mem_singleton] at hx
  rcases hx with ((hx | rfl) | hx) | hx
  · exact h x (List.mem_of_mem_drop hx)
  · decide
  · have := List.eq_of_mem_replicate hx
    omega
  · exact lenB_lt _ _ x hx
/-- The words behind so many blocks of what fills it up. -/
def foldW (ws R : List Nat) : Nat → List Nat
  | 0 => ws
  | j + 1 => turnN (foldW ws R j) ((R.drop (64 * j)).take 64)
def sumW (bt : Nat) (m : List Nat) : List Nat := foldW (wsK bt m (m.length / 64)) (restN m) ((restN m).length / 64)
/-- A word's bytes. -/
def wordB (x : Nat) : List Nat := [x / 16777216 % 256, x / 65536 % 256, x / 256 % 256, x % 256]
def bytesW (ws : List Nat) (j : Nat) : List Nat := (List.range j).flatMap fun i => wordB (g0 ws i)
theorem bytesW_succ (ws : List Nat) (j : Nat) : bytesW ws (j + 1) = bytesW ws j ++ wordB (g0 ws j) := by
  unfold bytesW
  rw [List.range_succ, List.flatMap_append]
  simp
theorem bytesW_len (ws : List Nat) : ∀ j, (bytesW ws j).length = 4 * j
  | 0 => rfl
  | j + 1 => by rw [bytesW_succ, List.length_append, bytesW_len ws j]; simp [wordB]; omega
theorem bytesW_lt (ws : List Nat) (j : Nat) : ∀ x ∈ bytesW ws j, x < 256 := fun x hx => by
  unfold bytesW at hx
  obtain ⟨i, -, hx⟩ := List.mem_flatMap.1 hx
  unfold wordB at hx
  simp only [List.mem_cons, List.not_mem_nil, or_false] at hx
  rcases hx with rfl | rfl | rfl | rfl <;> exact Nat.mod_lt _ (by decide)
/-- The hash. -/
def hashN (bt : Nat) (m : List Nat) : List Nat := (bytesW (sumW bt m) 8).take (bt / 8)
theorem hashN_lt (bt : Nat) (m : List Nat) : ∀ x ∈ hashN bt m, x < 256 := fun x hx => bytesW_lt _ _ x (List.mem_of_mem_take hx)
theorem hashN_len {bt : Nat} (m : List Nat) (h : bt = 224 ∨ bt = 256) : (hashN bt m).length = bt / 8 := by
  unfold hashN
  rw [List.length_take, bytesW_len]
  omega
theorem foldW_len {ws : List Nat} (R : List Nat) (h : ws.length = 8) : ∀ j, (foldW ws R j).length = 8
  | 0 => h
  | j + 1 => turnN_len (foldW_len R h j)
theorem foldW_lt {ws : List Nat} (R : List Nat) (h : ∀ x ∈ ws, x < 4294967296) : ∀ j, ∀ x ∈ foldW ws R j, x < 4294967296
  | 0 => h
  | j + 1 => turnN_lt (foldW_lt R h j)

end Go.Proofs.YtmfjhgjplmpecaaDoor
