/-
  THE LAW NatNames: it has no input. Where the code goes on by tests, each is met as the law's answers decide it.
-/
import Derived.Test.YtanimenpkinapaaNatH
import Derived.Lib.AppendZerosOnto
namespace Go.Proofs.Ytanimenpkinapaa
open Go.RowKit

theorem of_nat (n : Int) (k : Nat) (hk : n = k) (w : World) (hn : k < 18446744073709551616) : Calls Try.prog 21 #[.int .u64 n] w fun e w' => (∃ v, e = .returned v ∧ NatC w' v k) ∧ Below w.heap.size w w' :=
  (of_any n k hk w hn).mono fun e w' ⟨⟨v, he, ho⟩, hb⟩ => ⟨⟨v, he, NatC.of ho⟩, hb⟩
theorem natAt_nil (w : World) : NatAt w (.slice none 0 0) 0 := ⟨none, 0, 0, [], rfl, Reads.none _ w, (fun _ h => by cases h), rfl⟩
theorem natC_len {w : World} {v : Value} {n : Nat} (h : NatC w v n) (k : Nat) (hk : (nat32 n).length = k) : ∃ a cap, v = .slice a k cap ∧ NatC w (.slice a k cap) n := by
  obtain ⟨a, len, cap, rfl, hr⟩ := h
  have := hr.length
  rw [hk] at this
  subst this
  exact ⟨a, cap, rfl, ⟨a, k, cap, rfl, hr⟩⟩
theorem retErr_of {B : Nat} {w : World} {c : Int} {e : Ending} (h : RetsQ2 .u32 54 B w ([], c) e) : RetErr c e := by
  obtain ⟨v, rfl, _⟩ := h
  exact ⟨v, rfl⟩
theorem add_err {x y : Value} {n m : Nat} {w : World} (hx : NatAt w x n) (hy : NatAt w y m) (h : ¬ n + m < topN) : Calls Try.prog 26 #[x, y] w fun e w' => RetErr 20 e ∧ Below w.heap.size w w' := by
  obtain ⟨a, len, cap, l, rfl, hr, hl, rfl⟩ := hx
  obtain ⟨a', len', cap', l', rfl, hr', hl', rfl⟩ := hy
  refine (add_any _ _ _ _ _ _ _ _ w hr hr' hl hl').mono fun e w' ⟨he, hb⟩ => ⟨?_, hb⟩
  rw [cutR_large h] at he
  exact retErr_of he
theorem mul_err {x y : Value} {n m : Nat} {w : World} (hx : NatAt w x n) (hy : NatAt w y m) (hn : n < topN) (hm : m < topN) (h : ¬ n * m < topN) : Calls Try.prog 30 #[x, y] w fun e w' => RetErr 20 e ∧ Below w.heap.size w w' := by
  obtain ⟨a, len, cap, l, rfl, hr, hl, rfl⟩ := hx
  obtain ⟨a', len', cap', l', rfl, hr', hl', rfl⟩ := hy
  refine (mul_any _ _ _ _ _ _ _ _ w hr hr' hl hl').mono fun e w' ⟨he, hb⟩ => ⟨?_, hb⟩
  rw [mulR_yes hn hm, cutR_large h] at he
  exact retErr_of he
theorem shl_err {x : Value} {n : Nat} {w : World} (hx : NatAt w x n) (k : Int) (j : Nat) (hk : k = j) (hk2 : k ≤ 9223372036854775807) (h : ¬ n * 2 ^ j < topN) : Calls Try.prog 36 #[x, .int .i64 k] w fun e w' => RetErr 20 e ∧ Below w.heap.size w w' := by
  obtain ⟨a, len, cap, l, rfl, hr, hl, rfl⟩ := hx
  subst hk
  refine (shl_any _ _ _ _ w hr hl _ hk2).mono fun e w' ⟨he, hb⟩ => ⟨?_, hb⟩
  rw [show shlR (val32 l) (j : Int) = ([], 20) by unfold shlR; rw [if_neg (by omega), Int.toNat_natCast, cutR_large h]] at he
  exact retErr_of he
theorem shl_neg {x : Value} {n : Nat} {w : World} (hx : NatAt w x n) (k : Int) (hk : k < 0) : Calls Try.prog 36 #[x, .int .i64 k] w fun e w' => RetErr 2 e ∧ Below w.heap.size w w' := by
  obtain ⟨a, len, cap, l, rfl, hr, hl, rfl⟩ := hx
  refine (shl_any _ _ _ _ w hr hl _ (by omega)).mono fun e w' ⟨he, hb⟩ => ⟨?_, hb⟩
  rw [show shlR (val32 l) k = ([], 2) from if_pos hk] at he
  exact retErr_of he
theorem shr_neg {x : Value} {n : Nat} {w : World} (hx : NatAt w x n) (k : Int) (hk : k < 0) : Calls Try.prog 38 #[x, .int .i64 k] w fun e w' => RetErr 2 e ∧ Below w.heap.size w w' := by
  obtain ⟨a, len, cap, l, rfl, hr, hl, rfl⟩ := hx
  refine (shr_any _ _ _ _ w hr hl _ (by omega)).mono fun e w' ⟨he, hb⟩ => ⟨?_, hb⟩
  rw [show shrR (val32 l) k = ([], 2) from if_pos hk] at he
  exact retErr_of he
theorem trim_err {x : Value} {n : Nat} {w : World} (hx : NatAt w x n) (h : ¬ n < topN) : Calls Try.prog 12 #[x] w fun e w' => RetErr 20 e ∧ Below w.heap.size w w' := by
  obtain ⟨a, len, cap, l, rfl, hr, hl, rfl⟩ := hx
  refine (trim_any _ _ _ _ w hr hl).mono fun e w' ⟨he, hb⟩ => ⟨?_, hb⟩
  rw [cutR_large h] at he
  exact retErr_of he
theorem read_err {a : Option Addr} {len cap : Nat} {l : List Nat} {w : World} (h : Reads .u8 w a len cap l) (hB : Byt l) (hm : len ≤ 17592186044416) (hv : ¬ valB 256 l.reverse < topN) : Calls Try.prog 15 #[.slice a len cap] w fun e w' => RetErr 20 e ∧ Below w.heap.size w w' := by
  refine (read_any _ _ _ _ w h hB hm).mono fun e w' ⟨he, hb⟩ => ⟨?_, hb⟩
  rw [cutR_large hv] at he
  exact retErr_of he
theorem read_nought {a : Option Addr} {len cap k : Nat} {w : World} (h : Reads .u8 w a len cap (List.replicate k 0)) (hm : len ≤ 17592186044416) : Calls Try.prog 15 #[.slice a len cap] w fun e w' => RetN w' 0 e ∧ Below w.heap.size w w' := by
  refine (read_any _ _ _ _ w h (fun x hx => by rw [List.eq_of_mem_replicate hx]; decide) hm).mono fun e w' ⟨he, hb⟩ => ⟨?_, hb⟩
  rw [List.reverse_replicate, valB_zeros, cutR_small topN_pos] at he
  exact he.num
theorem big_bytes (k : Nat) : ¬ valB 256 (([1] ++ List.replicate k 0).reverse) < 256 ^ k := by
  rw [List.reverse_append, List.reverse_replicate, List.reverse_singleton, valB_snoc, valB_zeros, List.length_replicate]
  omega
theorem byt_big (k : Nat) : Byt ([1] ++ List.replicate k 0) := fun x hx => by
  rcases List.mem_append.1 hx with h | h
  · rw [List.mem_singleton.1 h]; decide
  · rw [List.eq_of_mem_replicate h]; decide
theorem pure_lit {P : Program} {f : FuncId} {args : Array Value} {W : World} {o : Obj} {R : Ending} (h : Calls P f args (W.alloc o) fun e w' => e = R ∧ W.alloc o = w') : Calls P f args (W.alloc o) fun e w' => e = R ∧ Below W.heap.size W w' :=
  h.mono fun _ _ ⟨he, hw⟩ => ⟨he, hw ▸ (Below.refl _ _).alloc (Nat.le_refl _) o⟩
theorem below_lit {P : Program} {f : FuncId} {args : Array Value} {W : World} {o : Obj} {R : Ending} (h : Calls P f args (W.alloc o) fun e w' => e = R ∧ Below (W.alloc o).heap.size (W.alloc o) w') : Calls P f args (W.alloc o) fun e w' => e = R ∧ Below W.heap.size W w' :=
  h.mono fun _ _ ⟨he, hb⟩ => ⟨he, ((Below.refl _ _).alloc (Nat.le_refl _) o).trans (hb.mono (by simp))⟩
theorem below_lit2 {P : Program} {f : FuncId} {args : Array Value} {W : World} {o o' : Obj} {R : Ending} (h : Calls P f args ((W.alloc o).alloc o') fun e w' => e = R ∧ Below ((W.alloc o).alloc o').heap.size ((W.alloc o).alloc o') w') : Calls P f args ((W.alloc o).alloc o') fun e w' => e = R ∧ Below W.heap.size W w' :=
  (below_lit h).mono fun _ _ ⟨he, hb⟩ => ⟨he, ((Below.refl _ _).alloc (Nat.le_refl _) o).trans (hb.mono (by simp))⟩
theorem rep_len (k : Nat) : k = (List.replicate k 0).length := by simp
theorem rep_get (k i : Nat) : (List.replicate k 0)[i]?.getD 0 = 0 := by
  by_cases h : i < k
  · simp [h]
  · rw [List.getElem?_eq_none (by simpa using h)]; rfl
theorem lim_long (k : Nat) : Lim ((List.replicate k 0).set 256 1) := mem_set (fun x hx => by rw [List.eq_of_mem_replicate hx]; decide) (by decide)
theorem val_long (k : Nat) (h : 256 < k) : val32 ((List.replicate k 0).set 256 1) = topN := by
  have := valB_set 4294967296 (List.replicate k 0) 256 1 (by simpa using h)
  rw [rep_get, valB_zeros, Nat.mul_zero, Nat.mul_one, Nat.zero_add, Nat.add_zero] at this
  exact this
theorem lim_zeros (k : Nat) : Lim (List.replicate k 0) := fun x hx => by rw [List.eq_of_mem_replicate hx]; decide
theorem val_zeros (k : Nat) : val32 (List.replicate k 0) = 0 := valB_zeros _ _
theorem natAt_own {E B : Nat} {w : World} {a : Option Addr} {len cap n : Nat} {l : List Nat} (h : OwnQ .u32 E B w (.slice a len cap) l) (hl : Lim l) (hv : val32 l = n) : NatAt w (.slice a len cap) n := ⟨a, len, cap, l, rfl, h.reads, hl, hv⟩
theorem is_nat {x : Value} {n : Nat} {w : World} (hx : NatC w x n) {a' : Option Addr} {n' c' : Nat} {l' : List Nat} (hl : Reads .u32 w a' n' c' l') (h : nat32 n = l') : Calls Try.prog 40 #[x, .int .i64 0, .slice a' n' c'] w fun e w' => e = .returned (.bool true) ∧ Below w.heap.size w w' := by
  obtain ⟨a, len, cap, rfl, hr⟩ := hx
  exact is_any _ _ _ _ _ _ _ _ w hr hl true (by rw [h]; simp)
theorem uint_yes {a : Option Addr} {len cap n : Nat} {l : List Nat} {w : World} (h : Reads .u32 w a len cap l) (hL : Lim l) (hv : val32 l = n) (hn : n < 18446744073709551616) : Calls Try.prog 18 #[.slice a len cap] w fun e w' => e = .returned (.tuple #[.int .u64 (n : Int), .bool true]) ∧ w = w' :=
  (uint_any _ _ _ _ w h hL).mono fun e w' ⟨he, hw⟩ => ⟨by subst hv; unfold UintIs uintV at he; rw [if_pos hn] at he; rw [he]; simp [hn], hw⟩
theorem uint_no {a : Option Addr} {len cap : Nat} {l : List Nat} {w : World} (h : Reads .u32 w a len cap l) (hL : Lim l) (hn : ¬ val32 l < 18446744073709551616) : Calls Try.prog 18 #[.slice a len cap] w fun e w' => e = .returned (.tuple #[.int .u64 0, .bool false]) ∧ w = w' :=
  (uint_any _ _ _ _ w h hL).mono fun e w' ⟨he, hw⟩ => ⟨by unfold UintIs uintV at he; rw [if_neg hn] at he; rw [he]; simp [hn], hw⟩
theorem reads_lit (w : World) (E : TypeId) (l : List Nat) (cs : Array Value) (h : cs = (l.map (num .u32)).toArray) (hm : l.length ≤ maxLen) : Reads .u32 (w.alloc (.cells cs E)) (some ⟨w.heap.size, 0, .none⟩) l.length l.length l := by
  subst h
  refine ⟨rfl, Nat.le_refl _, hm, (fun h => by cases h), fun _ => ⟨w.heap.size, 0, rfl, by simp, fun i hi => ?_⟩⟩
  rw [World.cell?_alloc_at _ _ _ _ (by simp)]
  simp [num, hi]

theorem zeroCells_one (v : Value) (n : Nat) : (Builtin.zeroCells #[v] n).toList = List.replicate n v := by
  apply List.ext_getElem
  · simp [Builtin.zeroCells]
  · intro i h1 h2
    simp [Builtin.zeroCells, Nat.mod_one]

/-- 'append(s, make([]byte, k)...)' where s has no room. -/
theorem wpList_append_zeros {P : Program} (w : World) {ops : Array Oper} {rest : List Oper} {o : Oper} {a : Act} {Q : Exit → Act → World → Prop} (hgd : o.guard = .none) (s x : Operand) (t tn : TypeId)
    (ho : o.op = .call { callee := .builtin .append, args := #[s, x], argTypes := #[t, tn] })
    (B E : Nat) (i : TypeInfo) (ht : P.underlying t = some (.slice E)) (htn : P.underlying tn = some (.int .i64)) (hi : P.info? E = some i) (hz : i.zero = some (.int .u8 0)) (hsize : i.size = 1) (hby : i.bytes = 1)
    (g n c : Nat) (l : List Nat) (hs : a.eval s = .slice (some ⟨g, 0, .none⟩) n c) (hown : OwnQ .u8 E B w (.slice (some ⟨g, 0, .none⟩) n c) l) (k : Nat) (hx : a.eval x = .int .i64 (k : Int)) (h0 : 0 < k) (hgr : c < n + k) (hb : n + k ≤ 1000000) (hbase : B ≤ w.heap.size)
    (h : ∀ c' w', OwnQ .u8 E B w' (.slice (some ⟨w.heap.size, 0, .none⟩) (n + k) c') (l ++ List.replicate k 0) → Below w.heap.size w w' → wpList P ops Q rest (a.put o.dst (.slice (some ⟨w.heap.size, 0, .none⟩) (n + k) c')) w') : wpList P ops Q (o :: rest) a w := by
  have hcap := hown.cap
  have hold := run_firstCells_some (P := P) w.drew i.size n ⟨g, 0, .none⟩ n c (l.map (num .u8)) (by rw [hsize]; simpa using hcap.1.symm) (by
    intro j u hu
    have := hown.reads.news j u hu
    simpa using this)
  have hfit : Builtin.nextslicecap (n + k) c * i.bytes ≤ 281474976710656 := growslice_fits (by omega) (by rw [hby]; omega)
  have hrun := Lib.run_append_grow_zeros (P := P) w t tn o.type E i (.int .u8 0) .i64 .i64 ht htn hi hz (some ⟨g, 0, .none⟩) n c (l.map (num .u8)) hold k h0 (by omega) hgr (by omega) (by rw [hby]; omega) hfit
  have hge := grownCap_ge w (n + k) c E
  have hcm := grownCap_le_maxLen w (n + k) c E (by unfold maxLen; omega)
  refine wpList_plain hgd fun K hK' => ?_
  unfold Oper.wp
  simp only [execOp, ho, resolve, invoke, builtin, Sem.run_bind, Sem.run_pure, Result.andThen_ok, List.map_toArray, List.map_cons, List.map_nil, hs, hx, hrun]
  refine hK' _ _ (h _ _ ⟨by simp [hcap.1], .inr ⟨w.heap.size, _, _, ?_, hbase, heap_alloc_new w.drew _, ?_, hcm, ?_, ?_⟩⟩ ((Below.refl w.heap.size w).drew.alloc (Nat.le_refl _) _))
  · simp [hcap.1]
  · simpa [← hcap.1] using hge
  · simp only [Array.size_append, List.size_toArray, size_zeroCells, List.length_map]
    simp [Value.cells]
    omega
  · rw [Array.toList_append, Array.toList_append, show (Value.int .u8 0).cells = #[Value.int .u8 0] from rfl, zeroCells_one]
    simp [hcap.1, num, List.take_append]
    exact List.take_of_length_le (by simp)

theorem reads_lit2 (w : World) (o : Obj) (E : TypeId) (l : List Nat) (cs : Array Value) (h : cs = (l.map (num .u32)).toArray) (hm : l.length ≤ maxLen) : Reads .u32 ((w.alloc o).alloc (.cells cs E)) (some ⟨w.heap.size + 1, 0, .none⟩) l.length l.length l := by
  have := reads_lit (w.alloc o) E l cs h hm
  rwa [World.size_alloc] at this
theorem of_nat0 (w : World) : Calls Try.prog 21 #[.int .u64 0] w fun e w' => (∃ v, e = .returned v ∧ NatC w' v 0) ∧ Below w.heap.size w w' := of_nat 0 0 rfl w (by decide)

/-- Powers that are named, never written out. -/
theorem pow_facts (a b : Nat) (e : b = a + 1) (h : topN = 2 ^ b) : ¬ 1 * 2 ^ b < topN ∧ 1 * 2 ^ a < topN ∧ ¬ 2 ^ a + 2 ^ a < topN ∧ ¬ 2 ^ a * 2 < topN ∧ 2 ^ a < topN := by
  subst e
  rw [h, Nat.pow_succ]
  have := Nat.pow_pos (n := a) (show 0 < 2 by decide)
  refine ⟨by omega, by omega, by omega, by omega, by omega⟩
theorem len_top (a b c : Nat) (h1 : 4294967296 ^ c ≤ 2 ^ a) (h2 : 2 ^ a < 4294967296 ^ b) (e : b = c + 1) : (nat32 (2 ^ a)).length = b := by
  have := (natB_length (b := 4294967296) (by decide) (2 ^ a) b).2 h2
  have := (natB_len_lt (b := 4294967296) (by decide) (2 ^ a) c).2 h1
  show (natB 4294967296 (2 ^ a)).length = b
  omega
theorem pow_le (a c : Nat) (h : 32 * c ≤ a) : 4294967296 ^ c ≤ 2 ^ a := by
  rw [show (4294967296 : Nat) = 2 ^ 32 from rfl, ← Nat.pow_mul]
  exact Nat.pow_le_pow_right (by decide) h
theorem pow_lt (a b : Nat) (h : a < 32 * b) : 2 ^ a < 4294967296 ^ b := by
  rw [show (4294967296 : Nat) = 2 ^ 32 from rfl, ← Nat.pow_mul]
  exact Nat.pow_lt_pow_right (by decide) h

end Go.Proofs.Ytanimenpkinapaa
