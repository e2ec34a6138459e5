/-
  THE LAW NatShifts, walked.
-/
import Derived.Test.YtanimenpkinapaaNatM
namespace Go.Proofs.Ytanimenpkinapaa
open Go.RowKit

theorem apart_of {q q' : IntKind} {E E' : TypeId} {B B' : Nat} {w w' : World} {v v' : Value} {l l' : List Nat} (h : OwnQ q E B w v l) (h' : OwnQ q' E' B' w' v' l') (hB : w.heap.size ≤ B') : ∀ g, v.ownBlock = some g → v'.ownBlock ≠ some g := fun g e e' => by
  have h1 := (World.ownsRow.lt h g e).2
  have h2 := (World.ownsRow.lt h' g e').1
  omega
theorem Apart.none : Apart [] := fun i j v u g _ hi => by simp at hi
theorem Apart.one (v : Value) : Apart [v] := fun i j a b g hne hi hj => by
  rcases i with _ | i <;> rcases j with _ | j <;> simp at hi hj hne
theorem Apart.two {v u : Value} (h : ∀ g, v.ownBlock = some g → u.ownBlock ≠ some g) : Apart [v, u] := fun i j a b g hne hi hj ha hb => by
  rcases i with _ | _ | i <;> rcases j with _ | _ | j <;> simp at hi hj hne
  · subst hi hj; exact h g ha hb
  · subst hi hj; exact h g hb ha
theorem Apart.three {v u x : Value} (h1 : ∀ g, v.ownBlock = some g → u.ownBlock ≠ some g) (h2 : ∀ g, v.ownBlock = some g → x.ownBlock ≠ some g) (h3 : ∀ g, u.ownBlock = some g → x.ownBlock ≠ some g) : Apart [v, u, x] := fun i j a b g hne hi hj ha hb => by
  rcases i with _ | _ | _ | i <;> rcases j with _ | _ | _ | j <;> simp at hi hj hne
  · subst hi hj; exact h1 g ha hb
  · subst hi hj; exact h2 g ha hb
  · subst hi hj; exact h1 g hb ha
  · subst hi hj; exact h3 g ha hb
  · subst hi hj; exact h2 g hb ha
  · subst hi hj; exact h3 g hb ha

theorem KeptI.start {B : Nat} {T : TypeId} {vs : List Value} {w : World} (h : ∀ v ∈ vs, ∃ l, OwnQ .u32 54 B w v l) : KeptI B w.heap.size T vs (w.alloc (.cells vs.toArray T)) (w.alloc (.cells vs.toArray T)) :=
  ⟨Below.refl _ _, heap_alloc_new w _, fun v hv => by
    obtain ⟨l, hl⟩ := h v hv
    exact ⟨OwnQ.ownLt hl (Nat.le_refl _), l, hl.alloc _⟩⟩

theorem ref_shl (a : Option Addr) (len cap : Nat) (l : List Nat) (w : World) (h : Reads .u32 w a len cap l) (hL : Lim l) (hm : len ≤ 1000000000000) (n : Int) (hn : n ≤ 9223372036854775807) :
    Calls Try.prog 37 #[.slice a len cap, .int .i64 n] w fun e w' => RetsQ2 .u32 54 w.heap.size w' (shlR (val32 l) n) e ∧ Below w.heap.size w w' := rf.shl_any a len cap l w h hL hm n hn
theorem ref_shr (a : Option Addr) (len cap : Nat) (l : List Nat) (w : World) (h : Reads .u32 w a len cap l) (hL : Lim l) (hm : len ≤ 1000000000000) (n : Int) (hn : n ≤ 9223372036854775807) :
    Calls Try.prog 39 #[.slice a len cap, .int .i64 n] w fun e w' => RetsQ2 .u32 54 w.heap.size w' (shrR (val32 l) n) e ∧ Below w.heap.size w w' := rf.shr_any a len cap l w h hL hm n hn

theorem twin_read {w : World} {B : Nat} {g n c : Nat} {l : List Nat} (h : OwnQ .u32 54 B w (.slice (some ⟨g, 0, none⟩) (n + 1) c) (l ++ [7])) (hn : l.length = n) : Reads .u32 w (some ⟨g, 0, none⟩) n c l := by
  have := h.reads.upto n (by omega)
  rwa [List.take_left' hn] at this

set_option maxRecDepth 100000 in
set_option maxHeartbeats 2000000 in
theorem shifts_walk (a : Option Addr) (n c : Nat) (l : List Nat) (k : Int) (w : World) (hx : Reads .u32 w a n c l) (hL : Lim l) (hk : (Lit.int .i64 k).wf = true) :
    Calls Try.prog 5 #[.slice a n c, .int .i64 k] w fun e w' => e = .returned (.bool true) ∧ Below w.heap.size w w' := by
  have hk2 : k ≤ 9223372036854775807 := by
    simp [Lit.wf, IntKind.min, IntKind.max, IntKind.signed, IntKind.bits] at hk
    omega
  have hml := hx.len_le
  have HR := Lib.hid hx
  have HN := Lib.hid hx.length
  have HL := Lib.hid hL
  clear hx hL hk
  have H1 := Lib.hid ((Below.refl w.heap.size w).alloc (Nat.le_refl _) (.cells #[.slice a n c] 23))
  by_cases h300 : n ≤ 300
  · go_enter Try.func5, Try.ntmps5
    go_wp2_with fail
    refine (great_any _ 1 (fun _ => n) _ (by decide) (fun i hi => by obtain rfl : i = 0 := (by omega); exact ⟨a, c, World.cell?_alloc_at _ _ _ _ rfl⟩) (fun _ _ => hml) false (.inr ⟨rfl, fun _ _ => h300⟩)).mono ?_
    rintro e w1 ⟨rfl, rfl⟩
    go_wp2_with fail
    refine (twin_any a n c l _ (HR.out.below H1.out) (by omega)).mono ?_
    rintro e w2 ⟨⟨g, c2, rfl, ho2⟩, hb2⟩
    have H2 := Lib.hid (H1.out.trans (hb2.mono H1.out.size))
    have HP := Lib.hid (twin_read ho2 HN.out)
    have HX := Lib.hid (HR.out.below H2.out)
    have HT := Lib.hid ho2.reads
    clear ho2 hb2
    have SL := Lib.hid (fun (w : World) (a : Option Addr) (len cap : Nat) (h : Reads .u32 w a len cap l) => shl_any a len cap l w h HL.out k hk2)
    have SR := Lib.hid (fun (w : World) (a : Option Addr) (len cap : Nat) (h : Reads .u32 w a len cap l) => shr_any a len cap l w h HL.out k hk2)
    have TL := Lib.hid (fun (w : World) (h : Reads .u32 w a n c l) => ref_shl a n c l w h HL.out (by omega) k hk2)
    have TR := Lib.hid (fun (w : World) (h : Reads .u32 w a n c l) => ref_shr a n c l w h HL.out (by omega) k hk2)
    generalize shlR (val32 l) k = R1 at SL TL
    generalize shrR (val32 l) k = R2 at SR TR
    obtain ⟨O1, e1⟩ := R1
    obtain ⟨O2, e2⟩ := R2
    go_wp2_with fail
    refine (SL.out w2 _ _ _ HP.out).mono ?_
    rintro e w3 ⟨⟨v3, rfl, ho3⟩, hb3⟩
    have F3 := Lib.hid hb3
    have O3 := Lib.hid ho3
    clear ho3 hb3
    go_wp2_with fail
    refine (TL.out w3 (HX.out.below F3.out)).mono ?_
    rintro e w4 ⟨⟨v4, rfl, ho4⟩, hb4⟩
    have F4 := Lib.hid (F3.out.trans (hb4.mono F3.out.size))
    have O4 := Lib.hid ho4
    replace O3 := Lib.hid (O3.out.below hb4)
    clear ho4 hb4
    go_wp2_with fail
    refine (SR.out w4 _ _ _ (HP.out.below F4.out)).mono ?_
    rintro e w5 ⟨⟨v5, rfl, ho5⟩, hb5⟩
    have F5 := Lib.hid (F4.out.trans (hb5.mono F4.out.size))
    have A35 := Lib.hid (apart_of O3.out ho5 (Nat.le_refl _))
    have O5 := Lib.hid (ho5.mono F4.out.size)
    replace O3 := Lib.hid (O3.out.below hb5)
    replace O4 := Lib.hid (O4.out.below hb5)
    clear ho5 hb5
    go_wp2_with fail
    refine (TR.out w5 (HX.out.below F5.out)).mono ?_
    rintro e w6 ⟨⟨v6, rfl, ho6⟩, hb6⟩
    have F6 := Lib.hid (F5.out.trans (hb6.mono F5.out.size))
    have O6 := Lib.hid ho6
    replace O3 := Lib.hid (O3.out.below hb6)
    replace O4 := Lib.hid (O4.out.below hb6)
    replace O5 := Lib.hid (O5.out.below hb6)
    clear ho6 hb6
    obtain ⟨a3, n3, c3, rfl, -, o3⟩ := O3.out.slice
    obtain ⟨a4, n4, c4, rfl, -, o4⟩ := O4.out.slice
    obtain ⟨a5, n5, c5, rfl, -, o5⟩ := O5.out.slice
    obtain ⟨a6, n6, c6, rfl, -, o6⟩ := O6.out.slice
    clear O3 O4 O5 O6
    have O3 := Lib.hid o3
    have O4 := Lib.hid o4
    have O5 := Lib.hid o5
    have O6 := Lib.hid o6
    clear o3 o4 o5 o6 SL SR TL TR
    go_wp2_with fail
    refine (same_any _ _ _ _ _ _ O1 O1 w6 O3.out.reads O4.out.reads true (by simp)).mono ?_
    rintro e w7 ⟨rfl, hb7⟩
    have F7 := Lib.hid (F6.out.trans (hb7.mono F6.out.size))
    replace O3 := Lib.hid (O3.out.below hb7)
    replace O5 := Lib.hid (O5.out.below hb7)
    replace O6 := Lib.hid (O6.out.below hb7)
    clear hb7 O4
    go_wp2_with fail
    refine (same_any _ _ _ _ _ _ O2 O2 w7 O5.out.reads O6.out.reads true (by simp)).mono ?_
    rintro e w8 ⟨rfl, hb8⟩
    have F8 := Lib.hid (F7.out.trans (hb8.mono F7.out.size))
    replace O3 := Lib.hid (O3.out.below hb8)
    replace O5 := Lib.hid (O5.out.below hb8)
    clear hb8 O6
    go_wp2_with fail
    refine (kept_any w2 _ w2.heap.size w8.heap.size 2 23 [.slice a3 n3 c3, .slice a5 n5 c5] g n c2 a c l HT.out HX.out (F8.out.alloc F8.out.size _) (Nat.le_refl _) rfl (by decide) (fun _ => KeptI.start (fun v hv => by
      rcases List.mem_cons.1 hv with rfl | hv
      · exact ⟨_, O3.out⟩
      · obtain rfl := List.mem_singleton.1 hv
        exact ⟨_, O5.out⟩)) (Apart.two A35.out) _ (.inl ⟨by decide, rfl⟩)).mono ?_
    rintro e w9 ⟨rfl, hb9⟩
    go_wp2
    go_ret
    exact ⟨rfl, H2.out.trans (hb9.mono H2.out.size)⟩
  · clear HR HN HL
    go_enter Try.func5, Try.ntmps5
    go_wp2_with fail
    refine (great_any _ 1 (fun _ => n) _ (by decide) (fun i hi => by obtain rfl : i = 0 := (by omega); exact ⟨a, c, World.cell?_alloc_at _ _ _ _ rfl⟩) (fun _ _ => hml) true (.inl ⟨rfl, 0, by decide, by omega⟩)).mono ?_
    rintro e w1 ⟨rfl, rfl⟩
    go_wp2
    go_ret
    exact ⟨rfl, H1.out⟩

end Go.Proofs.Ytanimenpkinapaa
