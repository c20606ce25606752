/- answer's Encode, of any answer. -/
import Derived.Test.YtkopcfpghklbbaaDoorEnc20A
import Derived.Test.YtkopcfpghklbbaaDoorEnc20B
import Derived.Test.YtkopcfpghklbbaaDoorText20
namespace Go.Proofs.YtkopcfpghklbbaaDoor
open Go.RowKit
set_option linter.unusedVariables false
set_option linter.unusedSimpArgs false

set_option maxRecDepth 100000 in
set_option maxHeartbeats 8000000 in
/-- It may not be. -/
theorem enc_err (k z : Int) (x : An) (ha : Option Addr) (hn hc : Nat) (da : Option Addr) (dn dc : Nat) (ba : Option Addr) (bn bc : Nat) (w : World)
    (hck : ∀ w', Below w.heap.size w w' → Calls Tryd.prog 19 #[.int .i64 k, av x (.slice ha hn hc) (.slice da dn dc) (.slice ba bn bc)] w' fun e w'' => e = .returned (.tuple #[.agg zcs, .iface 93 (.int .i64 z)]) ∧ Below w'.heap.size w' w'') :
    Calls Tryd.prog 10 #[.int .i64 k, av x (.slice ha hn hc) (.slice da dn dc) (.slice ba bn bc)] w fun e w' => e = .returned (.tuple #[.slice none 0 0, .iface 93 (.int .i64 z)]) ∧ Below w.heap.size w w' := by
  obtain ⟨err, hs, is, n, ds, c0, c1, c2, c3, sum, d⟩ := x
  have b1 := balloc20 w (.cells (acs ⟨err, hs, is, n, ds, c0, c1, c2, c3, sum, d⟩ (.slice ha hn hc) (.slice da dn dc) (.slice ba bn bc)) 34)
  have hc1 := hid (hck _ b1)
  replace b1 := hid b1
  clear hck
  go_enter Tryd.func10, Tryd.ntmps10
  go_wp2_with fail
  refine hc1.out.mono ?_
  rintro e w2 ⟨rfl, b2⟩
  have hB := hid (b1.out.trans (b2.mono b1.out.size))
  clear b2 hc1 b1
  go_wp2_with fail
  go_ret2
  exact ⟨rfl, hB.out.trans ((balloc20 w2 _).mono hB.out.size)⟩

/-- What Encode tells: bytes, or an error. -/
def eres (k : Int) (x : An) (e : Ending) (w' : World) : Prop :=
  (chk20 k x = 0 ∧ ∃ ad cap, e = .returned (.tuple #[.slice ad (enc20 k x).length cap, .nilIface]) ∧ Bytes w' ad cap (enc20 k x)) ∨ (chk20 k x ≠ 0 ∧ e = .returned (.tuple #[.slice none 0 0, erv (chk20 k x)]))

set_option maxHeartbeats 2000000 in
theorem encode_ok {k : Int} {w : World} {x : An} {ha : Option Addr} {hn hc : Nat} {da : Option Addr} {dn dc : Nat} {ba : Option Addr} {bn bc : Nat} (h : AV w x ha hn hc da dn dc ba bn bc) :
    Calls Tryd.prog 10 #[.int .i64 k, av x (.slice ha hn hc) (.slice da dn dc) (.slice ba bn bc)] w fun e w' => eres k x e w' ∧ Below w.heap.size w w' := by
  have hck : ∀ w', Below w.heap.size w w' → Calls Tryd.prog 19 #[.int .i64 k, av x (.slice ha hn hc) (.slice da dn dc) (.slice ba bn bc)] w' fun e w'' => e = .returned (cres k x) ∧ Below w'.heap.size w' w'' := fun w' q => check_av (h.below q)
  by_cases hz : chk20 k x = 0
  · obtain ⟨⟨k0, k1⟩, hm⟩ := chk_may hz
    have hck' : ∀ p, pe20 k x.err = p → ∀ w', Below w.heap.size w w' → Calls Tryd.prog 19 #[.int .i64 k, av x (.slice ha hn hc) (.slice da dn dc) (.slice ba bn bc)] w' fun e w'' => e = .returned (.tuple #[p.v, .nilIface]) ∧ Below w'.heap.size w' w'' := fun p hp w' q => by
      have := hck w' q
      unfold cres at this
      rw [hz, if_pos rfl, hp] at this
      exact this
    clear hck
    have hgo : ∀ W, enc20 k x = W → Calls Tryd.prog 10 #[.int .i64 k, av x (.slice ha hn hc) (.slice da dn dc) (.slice ba bn bc)] w (fun e w' => ∃ ad' cap', e = .returned (.tuple #[.slice ad' W.length cap', .nilIface]) ∧ Bytes w' ad' cap' W ∧ Below w.heap.size w w') → Calls Tryd.prog 10 #[.int .i64 k, av x (.slice ha hn hc) (.slice da dn dc) (.slice ba bn bc)] w fun e w' => eres k x e w' ∧ Below w.heap.size w w' := fun W hW q => by
      subst hW
      refine q.mono ?_
      rintro e w' ⟨ad', cap', he, hb, hl⟩
      exact ⟨.inl ⟨hz, ad', cap', he, hb⟩, hl⟩
    have hhl := h.h.len
    have hdl := h.d.len
    have hbl := h.bl
    obtain ⟨hH, hD, _, hBy, hhd, hb3, hwn, h64⟩ := h
    obtain ⟨err, hs, is, n, ds, c0, c1, c2, c3, sum, d⟩ := x
    dsimp only at hm hck' hhl hdl hbl hH hD hBy
    rcases hm with ⟨he, e1, e2, q1, q2, q3, q4, q5, q6, q7⟩ | ⟨he, o0, o1, o2, o3, o4, o5, o6, o7, o8, o9, o10, o11, o12, o13⟩
    · dsimp only at he e1 e2 q1 q2 q3 q4 q5 q6 q7
      obtain ⟨rfl, rfl, rfl, rfl⟩ := q5
      subst q1 q2 q3 q4 q6 q7
      simp only [List.length_nil] at hhl hdl hbl
      subst hhl hdl hbl
      obtain ⟨z, rfl⟩ : ∃ z : Nat, err = (z : Int) := ⟨err.toNat, by omega⟩
      refine hgo (be 1 z) (by unfold enc20; rw [if_pos he, List.append_nil]; rfl) ?_
      exact enc_e k ha hc da dc ba bc z (by omega) w hBy (hck' pz (by unfold pe20; rw [if_neg he]))
    · dsimp only at he o1 o2 o3 o4 o5 o6 o7 o8 o9 o10 o11 o12 o13
      subst he
      have hpe : pe20 k 0 = p20 k := by unfold pe20; rw [if_pos rfl]
      rw [hpe] at hck'
      have hE : enc20 k ⟨0, hs, is, n, ds, c0, c1, c2, c3, sum, d⟩ = be 1 0 ++ encB k ⟨0, hs, is, n, ds, c0, c1, c2, c3, sum, d⟩ := by unfold enc20; rw [if_neg (by simp)]; rfl
      have fl : ¬ (k = 6 ∨ k = 7 ∨ k = 8 ∨ k = 12) → flg k = false := fun q => by
        cases hf : flg k
        · rfl
        · exact absurd ((flg_iff k).1 hf) q
      rw [flg_iff] at o2
      have zi : ¬ (k = 6 ∨ k = 7 ∨ k = 8 ∨ k = 12) → is = false := fun q => by rcases o2 with g | g; exact g; exact absurd g q
      have zn : ¬ k = 9 → n = 0 := fun q => by omega
      have zd : ¬ (k = 10 ∨ k = 17) → ds = [] := fun q => by rcases o4 with g | g; exact g; exact absurd g q
      have zc : ¬ k = 11 → c0 = 0 ∧ c1 = 0 ∧ c2 = 0 ∧ c3 = 0 := fun q => by omega
      have zs : ¬ k = 13 → sum = 0 := fun q => by omega
      have zD : ¬ k = 14 → d = [] := fun q => by rcases o8 with g | g; exact g; exact absurd g q
      have zh : ¬ (k = 1 ∨ k = 3 ∨ k = 16) → hs = [] := fun q => by
        unfold hnd at o1
        rw [if_neg (by omega), if_neg (by omega)] at o1
        exact List.eq_nil_of_length_eq_zero o1
      have hs64 := And.intro hwn.s0 hwn.s1
      dsimp only at hs64
      clear o2 o3 o4 o6 o7 o8 hpe h64 hwn hz
      rcases (by omega : (k = 1 ∨ k = 3) ∨ k = 16 ∨ (k = 6 ∨ k = 7 ∨ k = 8 ∨ k = 12) ∨ k = 9 ∨ k = 10 ∨ k = 17 ∨ k = 11 ∨ k = 13 ∨ k = 14 ∨ (k = 2 ∨ k = 4 ∨ k = 5 ∨ k = 15)) with g | g | g | g | g | g | g | g | g | g
      · have hl : hs.length = 1 := by rw [o1]; unfold hnd; rw [if_pos g]
        obtain ⟨y, rfl⟩ := List.length_eq_one_iff.1 hl
        obtain ⟨rfl, rfl, rfl, rfl⟩ := zc (by omega)
        obtain rfl := zi (by omega)
        obtain rfl := zn (by omega)
        obtain rfl := zd (by omega)
        obtain rfl := zs (by omega)
        obtain rfl := zD (by omega)
        simp only [List.length_nil, List.length_cons, Nat.zero_add] at hhl hdl hbl
        subst hhl hdl hbl
        refine hgo (be 1 0 ++ (be 4 y.1 ++ be 4 y.2)) (by rw [hE]; have n9 : ¬ k = 9 := (by omega); have n10 : ¬ k = 10 := (by omega); have n11 : ¬ k = 11 := (by omega); have n13 : ¬ k = 13 := (by omega); have ff := fl (by omega); unfold encB; simp [ff, n9, n10, n11, n13, enh]) ?_
        exact enc_h1 k ha hc da dc ba bc y w hBy hH (hck' { pz with h := 1 } (by unfold p20; rw [if_pos g]))
      · have hl : hs.length = 2 := by rw [o1]; unfold hnd; rw [if_neg (by omega), if_pos g]
        obtain ⟨y, z, rfl⟩ : ∃ y z, hs = [y, z] := by
          match hs, hl with
          | [y, z], _ => exact ⟨y, z, rfl⟩
        obtain ⟨rfl, rfl, rfl, rfl⟩ := zc (by omega)
        obtain rfl := zi (by omega)
        obtain rfl := zn (by omega)
        obtain rfl := zd (by omega)
        obtain rfl := zs (by omega)
        obtain rfl := zD (by omega)
        simp only [List.length_nil, List.length_cons, Nat.zero_add, Nat.reduceAdd] at hhl hdl hbl
        subst hhl hdl hbl
        refine hgo (be 1 0 ++ ((be 4 y.1 ++ be 4 y.2) ++ (be 4 z.1 ++ be 4 z.2))) (by rw [hE]; have n9 : ¬ k = 9 := (by omega); have n10 : ¬ k = 10 := (by omega); have n11 : ¬ k = 11 := (by omega); have n13 : ¬ k = 13 := (by omega); have ff := fl (by omega); unfold encB; simp [ff, n9, n10, n11, n13, enh]) ?_
        exact enc_h2 k ha hc da dc ba bc y z w hBy hH (hck' { pz with h := 2 } (by unfold p20; rw [if_neg (by omega), if_pos g]))
      · obtain rfl := zh (by omega)
        obtain ⟨rfl, rfl, rfl, rfl⟩ := zc (by omega)
        obtain rfl := zn (by omega)
        obtain rfl := zd (by omega)
        obtain rfl := zs (by omega)
        obtain rfl := zD (by omega)
        simp only [List.length_nil] at hhl hdl hbl
        subst hhl hdl hbl
        refine hgo (be 1 0 ++ be 1 (if is then 1 else 0)) (by rw [hE]; have n9 : ¬ k = 9 := (by omega); have n10 : ¬ k = 10 := (by omega); have n11 : ¬ k = 11 := (by omega); have n13 : ¬ k = 13 := (by omega); have ff := (flg_iff k).2 g; unfold encB; simp [ff, n9, n10, n11, n13]) ?_
        exact enc_i k ha hc da dc ba bc is _ rfl w hBy (hck' { pz with i := true } (by unfold p20; rw [if_neg (by omega), if_neg (by omega), if_pos g]))
      · obtain rfl := zh (by omega)
        obtain ⟨rfl, rfl, rfl, rfl⟩ := zc (by omega)
        obtain rfl := zi (by omega)
        obtain rfl := zd (by omega)
        obtain rfl := zs (by omega)
        obtain rfl := zD (by omega)
        simp only [List.length_nil] at hhl hdl hbl
        subst hhl hdl hbl
        obtain ⟨z, rfl⟩ : ∃ z : Nat, n = (z : Int) := ⟨n.toNat, by omega⟩
        refine hgo (be 1 0 ++ be 4 z) (by rw [hE]; have ff := fl (by omega); unfold encB; simp [ff, g, flg9]) ?_
        exact enc_n k ha hc da dc ba bc z (by omega) w hBy (hck' { pz with n := true } (by unfold p20; rw [if_neg (by omega), if_neg (by omega), if_neg (by omega), if_pos g]))
      · obtain rfl := zh (by omega)
        obtain ⟨rfl, rfl, rfl, rfl⟩ := zc (by omega)
        obtain rfl := zi (by omega)
        obtain rfl := zn (by omega)
        obtain rfl := zs (by omega)
        obtain rfl := zD (by omega)
        simp only [List.length_nil] at hhl hbl
        subst hhl hbl
        refine hgo (be 1 0 ++ (be 4 dn ++ ds.flatMap endt)) (by rw [hE]; have ff := fl (by omega); unfold encB; simp [ff, g, flg10, hdl]) ?_
        exact enc_f k ha hc da dn dc ba bc ds w hBy hD o13 (by omega) (hck' { pz with f := true } (by unfold p20; rw [if_neg (by omega), if_neg (by omega), if_neg (by omega), if_neg (by omega), if_pos g]))
      · obtain rfl := zh (by omega)
        obtain ⟨rfl, rfl, rfl, rfl⟩ := zc (by omega)
        obtain rfl := zi (by omega)
        obtain rfl := zn (by omega)
        obtain rfl := zs (by omega)
        obtain rfl := zD (by omega)
        simp only [List.length_nil] at hhl hbl
        subst hhl hbl
        refine hgo (be 1 0 ++ ds.flatMap endt) (by rw [hE]; have ff := fl (by omega); unfold encB; simp [ff, g, flg17]) ?_
        exact enc_t k ha hc da dn dc ba bc ds w hBy hD o13 (by omega) (hck' { pz with t := true } (by unfold p20; rw [if_neg (by omega), if_neg (by omega), if_neg (by omega), if_neg (by omega), if_neg (by omega), if_pos g]))
      · obtain rfl := zh (by omega)
        obtain rfl := zi (by omega)
        obtain rfl := zn (by omega)
        obtain rfl := zd (by omega)
        obtain rfl := zs (by omega)
        obtain rfl := zD (by omega)
        simp only [List.length_nil] at hhl hdl hbl
        subst hhl hdl hbl
        obtain ⟨⟨a0, a1⟩, ⟨a2, a3⟩, ⟨a4, a5⟩, a6, a7⟩ := o12
        obtain ⟨z0, rfl⟩ : ∃ z : Nat, c0 = (z : Int) := ⟨c0.toNat, by omega⟩
        obtain ⟨z1, rfl⟩ : ∃ z : Nat, c1 = (z : Int) := ⟨c1.toNat, by omega⟩
        obtain ⟨z2, rfl⟩ : ∃ z : Nat, c2 = (z : Int) := ⟨c2.toNat, by omega⟩
        obtain ⟨z3, rfl⟩ : ∃ z : Nat, c3 = (z : Int) := ⟨c3.toNat, by omega⟩
        refine hgo (be 1 0 ++ (be 4 z0 ++ (be 4 z1 ++ (be 4 z2 ++ be 4 z3)))) (by rw [hE]; have ff := fl (by omega); unfold encB; simp [ff, g, flg11]) ?_
        exact enc_c k ha hc da dc ba bc z0 z1 z2 z3 (by omega) (by omega) (by omega) (by omega) w hBy (hck' { pz with c := true } (by unfold p20; rw [if_neg (by omega), if_neg (by omega), if_neg (by omega), if_neg (by omega), if_neg (by omega), if_neg (by omega), if_pos g]))
      · obtain rfl := zh (by omega)
        obtain ⟨rfl, rfl, rfl, rfl⟩ := zc (by omega)
        obtain rfl := zi (by omega)
        obtain rfl := zn (by omega)
        obtain rfl := zd (by omega)
        obtain rfl := zD (by omega)
        simp only [List.length_nil] at hhl hdl hbl
        subst hhl hdl hbl
        refine hgo (be 1 0 ++ be 8 (sum % 18446744073709551616).toNat) (by rw [hE]; have ff := fl (by omega); unfold encB; simp [ff, g, flg13]) ?_
        exact enc_s k ha hc da dc ba bc sum _ (by rw [wrapU]; omega) (by omega) w hBy (hck' { pz with s := true } (by unfold p20; rw [if_neg (by omega), if_neg (by omega), if_neg (by omega), if_neg (by omega), if_neg (by omega), if_neg (by omega), if_neg (by omega), if_pos g]))
      · obtain rfl := zh (by omega)
        obtain ⟨rfl, rfl, rfl, rfl⟩ := zc (by omega)
        obtain rfl := zi (by omega)
        obtain rfl := zn (by omega)
        obtain rfl := zd (by omega)
        obtain rfl := zs (by omega)
        simp only [List.length_nil] at hhl hdl
        subst hhl hdl
        refine hgo (be 1 0 ++ d) (by rw [hE]; have ff := fl (by omega); unfold encB; simp [ff, g, flg14]) ?_
        exact enc_d k ha hc da dc ba bn bc d w hBy hbl hb3 (hck' { pz with d := true } (by unfold p20; rw [if_neg (by omega), if_neg (by omega), if_neg (by omega), if_neg (by omega), if_neg (by omega), if_neg (by omega), if_neg (by omega), if_neg (by omega), if_pos g]))
      · obtain rfl := zh (by omega)
        obtain ⟨rfl, rfl, rfl, rfl⟩ := zc (by omega)
        obtain rfl := zi (by omega)
        obtain rfl := zn (by omega)
        obtain rfl := zd (by omega)
        obtain rfl := zs (by omega)
        obtain rfl := zD (by omega)
        simp only [List.length_nil] at hhl hdl hbl
        subst hhl hdl hbl
        refine hgo (be 1 0) (by rw [hE]; have n9 : ¬ k = 9 := (by omega); have n10 : ¬ k = 10 := (by omega); have n11 : ¬ k = 11 := (by omega); have n13 : ¬ k = 13 := (by omega); have ff := fl (by omega); unfold encB; simp [ff, n9, n10, n11, n13]) ?_
        exact enc_z k ha hc da dc ba bc w hBy (hck' pz (p20_z g))
  · have hck2 : ∀ w', Below w.heap.size w w' → Calls Tryd.prog 19 #[.int .i64 k, av x (.slice ha hn hc) (.slice da dn dc) (.slice ba bn bc)] w' fun e w'' => e = .returned (.tuple #[.agg zcs, .iface 93 (.int .i64 (chk20 k x))]) ∧ Below w'.heap.size w' w'' := fun w' q => by
      have := hck w' q
      unfold cres at this
      rw [if_neg hz] at this
      unfold erv at this
      rw [if_neg hz] at this
      exact this
    refine (enc_err k (chk20 k x) x ha hn hc da dn dc ba bn bc w hck2).mono ?_
    rintro e w' ⟨rfl, hb⟩
    refine ⟨.inr ⟨hz, ?_⟩, hb⟩
    unfold erv
    rw [if_neg hz]

end Go.Proofs.YtkopcfpghklbbaaDoor
