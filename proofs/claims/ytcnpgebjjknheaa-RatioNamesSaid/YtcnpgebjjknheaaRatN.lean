/-
  WORDS FOR THE LAW RatioNames.
-/
import Derived.Test.YtcnpgebjjknheaaRatG
namespace Go.Proofs.Ytcnpgebjjknheaa
open Go.RowKit

theorem natAt_nil (w : World) : NatAt w (.slice none 0 0) 0 := ⟨none, 0, 0, [], rfl, Reads.none _ w, (fun _ h => by cases h), rfl⟩
theorem reads_lit (w : World) (E : TypeId) (l : List Nat) (cs : Array Value) (h : cs = (l.map (num .u32)).toArray) (hm : l.length ≤ maxLen) : Reads .u32 (w.alloc (.cells cs E)) (some ⟨w.heap.size, 0, .none⟩) l.length l.length l := by
  subst h
  refine ⟨rfl, Nat.le_refl _, hm, (fun h => by cases h), fun _ => ⟨w.heap.size, 0, rfl, by simp, fun i hi => ?_⟩⟩
  rw [World.cell?_alloc_at _ _ _ _ (by simp)]
  simp [num, hi]
theorem retErr_of {B : Nat} {w : World} {c : Int} {e : Ending} (h : RetsQ2 .u32 41 B w ([], c) e) : RetErr c e := by
  obtain ⟨v, rfl, _⟩ := h
  exact ⟨v, rfl⟩
theorem div_err {x y : Value} {X Y : Nat} {c : Int} {w : World} (hx : NatAt w x X) (hy : NatAt w y Y) (h : divR X Y = ([], [], c)) : Calls Try.prog 13 #[x, y] w fun e w' => (∃ q s, e = .returned (.tuple #[q, s, .int .i64 c])) ∧ Below w.heap.size w w' := by
  refine (div_any x y X Y w hx hy).mono fun e w' ⟨⟨q, s, he, _⟩, hb⟩ => ⟨?_, hb⟩
  rw [h] at he
  exact ⟨q, s, he⟩
theorem mod_err {x y : Value} {X Y : Nat} {c : Int} {w : World} (hx : NatAt w x X) (hy : NatAt w y Y) (h : modR X Y = ([], c)) : Calls Try.prog 15 #[x, y] w fun e w' => RetErr c e ∧ Below w.heap.size w w' := by
  refine (mod_any x y X Y w hx hy).mono fun e w' ⟨he, hb⟩ => ⟨?_, hb⟩
  rw [h] at he
  exact retErr_of he
theorem gcd_err {x y : Value} {X Y : Nat} {c : Int} {w : World} (hx : NatAt w x X) (hy : NatAt w y Y) (h : gcdR X Y = ([], c)) : Calls Try.prog 19 #[x, y] w fun e w' => RetErr c e ∧ Below w.heap.size w w' := by
  refine (gcd_any x y X Y w hx hy).mono fun e w' ⟨he, hb⟩ => ⟨?_, hb⟩
  rw [h] at he
  exact retErr_of he
theorem mm_err {x y m : Value} {X Y M : Nat} {c : Int} {w : World} (hx : NatAt w x X) (hy : NatAt w y Y) (hm : NatAt w m M) (h : mulModR X Y M = ([], c)) : Calls Try.prog 22 #[x, y, m] w fun e w' => RetErr c e ∧ Below w.heap.size w w' := by
  refine (mulMod_any x y m X Y M w hx hy hm).mono fun e w' ⟨he, hb⟩ => ⟨?_, hb⟩
  rw [h] at he
  exact retErr_of he
theorem inv_err {x m : Value} {X M : Nat} {c : Int} {w : World} (hx : NatAt w x X) (hm : NatAt w m M) (hs : Small x) (h : invR X M = ([], c)) : Calls Try.prog 24 #[x, m] w fun e w' => RetErr c e ∧ Below w.heap.size w w' := by
  refine (inverse_any x m X M w hx hm hs).mono fun e w' ⟨he, hb⟩ => ⟨?_, hb⟩
  rw [h] at he
  exact retErr_of he
theorem rep_len (k : Nat) : k = (List.replicate k 0).length := by simp
theorem rep_get (k i : Nat) : (List.replicate k 0)[i]?.getD 0 = 0 := by
  by_cases h : i < k
  · simp [h]
  · rw [List.getElem?_eq_none (by simpa using h)]; rfl
theorem lim_long (k i : Nat) : Lim ((List.replicate k 0).set i 1) := mem_set (fun x hx => by rw [List.eq_of_mem_replicate hx]; decide) (by decide)
theorem val_long (k i : Nat) (h : i < k) : val32 ((List.replicate k 0).set i 1) = 4294967296 ^ i := by
  have := valB_set 4294967296 (List.replicate k 0) i 1 (by simpa using h)
  rw [rep_get, valB_zeros, Nat.mul_zero, Nat.mul_one, Nat.zero_add, Nat.add_zero] at this
  exact this
theorem natAt_own' {E B : Nat} {w : World} {a : Option Addr} {len cap n : Nat} {l : List Nat} (h : OwnQ .u32 E B w (.slice a len cap) l) (hl : Lim l) (hv : val32 l = n) : NatAt w (.slice a len cap) n := ⟨a, len, cap, l, rfl, h.reads, hl, hv⟩
theorem NatAt.belowB {w w' : World} {v : Value} {n : Nat} (h : NatAt w v n) (hb : Below w.heap.size w w') : NatAt w' v n := h.below hb
theorem NatC.belowB {w w' : World} {v : Value} {n : Nat} (h : NatC w v n) (hb : Below w.heap.size w w') : NatC w' v n := h.below hb
theorem topM_lt : topM < topN := by
  unfold topM topN
  exact Nat.pow_lt_pow_right (by decide) (by decide)
theorem pow_mod3 (k : Nat) : 4294967296 ^ k % 3 = 1 := by
  rw [Nat.pow_mod, show 4294967296 % 3 = 1 from rfl, Nat.one_pow]
theorem gcd3 : Nat.gcd 3 topM = 1 := by
  rw [Nat.gcd_rec, show topM % 3 = 1 from pow_mod3 128]
  rfl
theorem inv3 : invN topM 3 = 1 := invN_eq (by decide) (by rw [Nat.mul_one]; exact pow_mod3 128)

end Go.Proofs.Ytcnpgebjjknheaa
