/- answer's put, putHandle, putDart, bit; the last append of Encode. -/
import Derived.Test.YtkopcfpghklbbaaDoorMem20
import Derived.Test.YtkopcfpghklbbaaDoorCheck20
import Derived.Deep.RegionWith
import Derived.Deep.RegionLaw
import Derived.Laws.Bits64b
namespace Go.Proofs.YtkopcfpghklbbaaDoor
open Go.RowKit
set_option linter.unusedVariables false

set_option maxRecDepth 100000 in
set_option maxHeartbeats 2000000 in
theorem aput_ok {base : Nat} {w : World} {v : Value} {l : List UInt8} {x n : Int} (X N : Nat) (hx : x = (X : Int)) (hn : n = (N : Int)) (hb : Bw base w v l) (hbs : base ≤ w.heap.size) (hl : l.length + N ≤ 1000000) (h1 : 1 ≤ N) (h8 : N ≤ 8) :
    Calls Tryd.prog 20 #[v, .int .u64 x, .int .i64 n] w fun e w' => ∃ v', e = .returned v' ∧ Bw base w' v' (l ++ be N X) ∧ Kb base w w' := by
  subst hx hn
  obtain ⟨i0, hif, hz0, hz1, hz2⟩ := info_parts infoU8
  have hput := hid (put_nil (X : Int) (N : Int) X N w rfl rfl h1 h8)
  replace hb := hid hb
  go_enter Tryd.func20, Tryd.ntmps20
  go_wp2_with fail
  refine hput.out.mono ?_
  rintro e w2 ⟨g, rfl, hg2, b2⟩
  have hown : w2.ownsRow base 5 1 v l.length (l.map bc) := ownsRow_below hb.out b2
  have hk2 := hid (Kb.ofBelow b2 hbs)
  have hs2 := Nat.le_trans hbs b2.size
  clear b2 hput hb
  go_wp2_with (at_builtin; refine wpList_append_bytes _ rfl (.tmp 7) (.tmp 10) 25 rfl base 5 i0 Tryd.underlying25 hif hz0 hz1 hz2 _ l l.length rfl hown _ N N (be N X) rfl (by rw [be_length]) hg2 (by omega) hs2 ?_; intro v' w' ho' hg'; refine Hid.out ?_)
  have hk3 := hid (hk2.out.trans (Kb.grown hown hg' (Nat.le_refl _) hs2))
  have hB3 : Hid (Bw base w' v' (l ++ be N X)) := by
    show World.ownsRow _ _ _ _ _ _ _
    rw [List.length_append, be_length]
    exact ho'
  clear ho' hg' hown hk2 hg2
  refine hid ?_
  go_wp2_with fail
  go_ret
  exact ⟨_, rfl, hB3.out, hk3.out⟩

set_option maxRecDepth 100000 in
theorem bit_ok (v : Bool) (w : World) : Calls Tryd.prog 22 #[.bool v] w fun e w' => e = .returned (.int .u64 (if v then 1 else 0)) ∧ w' = w := by
  cases v
  all_goals
    go_enter Tryd.func22, Tryd.ntmps22
    go_wp2_with fail
    go_ret
    exact ⟨rfl, rfl⟩

theorem num_app (l m : List UInt8) : num (l ++ m) = num l * 256 ^ m.length + num m := by
  have e : num (l ++ m) = m.foldl (fun a b => 256 * a + b.toNat) (num l) := by unfold num; rw [List.foldl_append]
  rw [e, num_acc]

theorem be8 (a p : Nat) (ha : a < 4294967296) (hp : p < 4294967296) : be 8 (a * 4294967296 + p) = be 4 a ++ be 4 p := by
  have h := be_num (be 4 a ++ be 4 p)
  rw [num_app, num_be, num_be, be_length, List.length_append, be_length, be_length] at h
  have e1 : a % 256 ^ 4 = a := Nat.mod_eq_of_lt (by omega)
  have e2 : p % 256 ^ 4 = p := Nat.mod_eq_of_lt (by omega)
  rw [e1, e2] at h
  exact h

theorem or32 (a p : Nat) (ha : a < 4294967296) (hp : p < 4294967296) : bits .or .u64 ((a : Int) * 4294967296) (p : Int) = ((a * 4294967296 + p : Nat) : Int) := by
  have e : ((a : Int) * 4294967296) = ((2 ^ 32 * a : Nat) : Int) := by omega
  rw [e, u64_or_nat (2 ^ 32 * a) p (by omega) (by omega)]
  rw [← Nat.two_pow_add_eq_or_of_lt (by omega : p < 2 ^ 32)]
  congr 1
  omega

set_option maxRecDepth 100000 in
set_option maxHeartbeats 2000000 in
theorem puth_ok {base : Nat} {w : World} {v : Value} {l : List UInt8} (a p : Nat) (ha : a < 4294967296) (hp : p < 4294967296) (hb : Bw base w v l) (hbs : base ≤ w.heap.size) (hl : l.length + 8 ≤ 1000000) :
    Calls Tryd.prog 21 #[v, .agg #[.int .u32 (a : Int), .int .u32 (p : Int)]] w fun e w' => ∃ v', e = .returned v' ∧ Bw base w' v' (l ++ (be 4 a ++ be 4 p)) ∧ Kb base w w' := by
  have b1 := balloc20 w (.cells #[.int .u32 (a : Int), .int .u32 (p : Int)] 61)
  have k1 := hid (Kb.ofBelow b1 hbs)
  have hB1 : Bw base (w.alloc (.cells #[.int .u32 (a : Int), .int .u32 (p : Int)] 61)) v l := ownsRow_below hb b1
  have hpt := hid (aput_ok (x := ((a * 4294967296 + p : Nat) : Int)) (n := 8) (a * 4294967296 + p) 8 rfl rfl hB1 (Nat.le_trans hbs b1.size) hl (by omega) (by omega))
  have hwa : IntKind.u64.wrap (a : Int) = (a : Int) := by rw [wrapU]; omega
  have hwp : IntKind.u64.wrap (p : Int) = (p : Int) := by rw [wrapU]; omega
  have hor := or32 a p ha hp
  have h8 := be8 a p ha hp
  rw [h8] at hpt
  clear b1 hB1 h8
  go_enter Tryd.func21, Tryd.ntmps21
  go_wp2_with fail
  try rw [hor]
  refine hpt.out.mono ?_
  rintro e w2 ⟨v', rfl, hB2, k2⟩
  have hfin := hid (And.intro hB2 (k1.out.trans k2))
  clear hB2 k2 hpt
  go_wp2_with fail
  go_ret
  exact ⟨_, rfl, hfin.out⟩

set_option maxRecDepth 100000 in
set_option maxHeartbeats 2000000 in
theorem putd_ok {base : Nat} {w : World} {v : Value} {l : List UInt8} (y : Dt) (ha : y.a < 4294967296) (hp : y.p < 4294967296) (hs : y.s = 0 ∨ y.s = 1) (hb : Bw base w v l) (hbs : base ≤ w.heap.size) (hl : l.length + 9 ≤ 1000000) :
    Calls Tryd.prog 23 #[v, .agg #[.int .u32 (y.a : Int), .int .u32 (y.p : Int), .int .i64 y.s]] w fun e w' => ∃ v', e = .returned v' ∧ Bw base w' v' (l ++ endt y) ∧ Kb base w w' := by
  obtain ⟨a, p, s⟩ := y
  dsimp only at ha hp hs ⊢
  have b1 := balloc20 w (.cells #[.int .u32 (a : Int), .int .u32 (p : Int), .int .i64 s] 65)
  have nH := new_of20 w #[.int .u32 (a : Int), .int .u32 (p : Int), .int .i64 s] 65
  obtain ⟨w1, hw1⟩ : ∃ w1, w.alloc (.cells #[.int .u32 (a : Int), .int .u32 (p : Int), .int .i64 s] 65) = w1 := ⟨_, rfl⟩
  rw [hw1] at b1 nH
  obtain ⟨H, hH⟩ : ∃ H, w.heap.size = H := ⟨_, rfl⟩
  have k1 := hid (Kb.ofBelow (b1.drew) hbs)
  have hB1 : Bw base w1.drew v l := ownsRow_below hb b1.drew
  obtain ⟨S, hS⟩ : ∃ S : Nat, s = (S : Int) := ⟨s.toNat, by omega⟩
  have hpt := hid (aput_ok (x := (S : Int)) (n := 1) S 1 rfl rfl hB1 (Nat.le_trans hbs b1.drew.size) (by omega) (by omega) (by omega))
  have hph : Hid (∀ w2 v2, Bw base w2 v2 (l ++ be 1 S) → Kb base w1.drew w2 → Calls Tryd.prog 21 #[v2, .agg #[.int .u32 (a : Int), .int .u32 (p : Int)]] w2 fun e w' => ∃ v', e = .returned v' ∧ Bw base w' v' (l ++ be 1 S ++ (be 4 a ++ be 4 p)) ∧ Kb base w2 w') := fun w2 v2 q k => puth_ok a p ha hp q (Nat.le_trans (Nat.le_trans hbs b1.drew.size) k.1.size) (by rw [List.length_append, be_length]; omega)
  have hend : Hid (l ++ be 1 S ++ (be 4 a ++ be 4 p) = l ++ endt ⟨a, p, s⟩) := by
    show _ = _
    unfold endt
    dsimp only
    rw [hS, Int.toNat_natCast, List.append_assoc]
  have hwS : IntKind.u64.wrap (S : Int) = (S : Int) := by rw [wrapU]; omega
  subst hS
  rw [hH] at nH
  replace nH := hid nH
  have nHd : Hid (w1.drew.heap[H]? = some (.cells #[.int .u32 (a : Int), .int .u32 (p : Int), .int .i64 (S : Int)] 65 (0, 0))) := nH.out
  have a0 := cell_of20 nHd.out (j := 0) rfl
  have a1 := cell_of20 nHd.out (j := 1) rfl
  have a2 := cell_of20 nHd.out (j := 2) rfl
  have c0 := cell_of20 nH.out (j := 0) rfl
  have c1 := cell_of20 nH.out (j := 1) rfl
  have c2 := cell_of20 nH.out (j := 2) rfl
  clear b1 hB1 hs hl hb
  go_enter Tryd.func23, Tryd.ntmps23
  go_upto_region 1 with fail
  try rw [hw1]
  try rw [hH]
  clear hw1
  go_region_with (first
    | (go_at_call 21; refine (hph.out _ _ hB2.out k2.out).mono ?_; rintro e3 w3 ⟨v3, rfl, hB3, k3⟩; have hfin := hid (And.intro hB3 (k1.out.trans (k2.out.trans k3))))
    | (go_at_call 20; refine hpt.out.mono ?_; rintro e2 w2 ⟨v2, rfl, hB2, k2⟩; have nH2 := k2.2 _ _ _ _ nHd.out (by decide); have d0 := cell_of20 nH2 (j := 0) rfl; have d1 := cell_of20 nH2 (j := 1) rfl; replace hB2 := hid hB2; replace k2 := hid k2))
  all_goals
    rw [hend.out] at hfin
    go_wp2_with fail
    go_ret
    exact ⟨_, rfl, hfin.out⟩

end Go.Proofs.YtkopcfpghklbbaaDoor
