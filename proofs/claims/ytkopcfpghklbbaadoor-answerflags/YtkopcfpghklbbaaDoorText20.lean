/- answer's Text, of any answer. -/
import Derived.Test.YtkopcfpghklbbaaDoorText20A
import Derived.Test.YtkopcfpghklbbaaDoorText20B
import Derived.Test.YtkopcfpghklbbaaDoorText20C
namespace Go.Proofs.YtkopcfpghklbbaaDoor
open Go.RowKit
set_option linter.unusedVariables false
set_option linter.unusedSimpArgs false

/-- An answer, to be read. -/
structure AV (w : World) (x : An) (ha : Option Addr) (hn hc : Nat) (da : Option Addr) (dn dc : Nat) (ba : Option Addr) (bn bc : Nat) : Prop where
  h : HV w ha hn hc x.hs
  d : DV w da dn dc x.ds
  bl : x.d.length = bn
  by' : Bytes w ba bc x.d
  hd : hn + dn ≤ 2000
  b3 : bn ≤ 3000
  wn : Wn x
  w64 : W64 x

theorem AV.below {w w' : World} {x : An} {ha : Option Addr} {hn hc : Nat} {da : Option Addr} {dn dc : Nat} {ba : Option Addr} {bn bc : Nat} (h : AV w x ha hn hc da dn dc ba bn bc) (hb : Below w.heap.size w w') : AV w' x ha hn hc da dn dc ba bn bc :=
  ⟨h.h.below hb, h.d.below hb, h.bl, h.by'.below hb, h.hd, h.b3, h.wn, h.w64⟩

theorem chk_may {k : Int} {x : An} (h : chk20 k x = 0) : (0 ≤ k ∧ k ≤ 17) ∧ may20 k x := by
  unfold chk20 at h
  split at h
  · omega
  · split at h
    · rename_i a b
      exact ⟨by omega, b⟩
    · omega

theorem check_av {k : Int} {w : World} {x : An} {ha : Option Addr} {hn hc : Nat} {da : Option Addr} {dn dc : Nat} {ba : Option Addr} {bn bc : Nat} (h : AV w x ha hn hc da dn dc ba bn bc) :
    Calls Tryd.prog 19 #[.int .i64 k, av x (.slice ha hn hc) (.slice da dn dc) (.slice ba bn bc)] w fun r w' => r = .returned (cres k x) ∧ Below w.heap.size w w' :=
  check_ok k x ha hn hc da dn dc ba bn bc w h.h.len h.d h.bl (by have := h.hd; omega) h.w64

theorem p20_z {k : Int} (g : k = 2 ∨ k = 4 ∨ k = 5 ∨ k = 15) : p20 k = pz := by unfold p20; rw [if_neg (by omega), if_neg (by omega), if_neg (by omega), if_neg (by omega), if_neg (by omega), if_neg (by omega), if_neg (by omega), if_neg (by omega), if_neg (by omega)]

theorem flg9 : flg 9 = false := by decide
theorem flg10 : flg 10 = false := by decide
theorem flg17 : flg 17 = false := by decide
theorem flg11 : flg 11 = false := by decide
theorem flg13 : flg 13 = false := by decide
theorem flg14 : flg 14 = false := by decide

/-- What a text tells. -/
abbrev tres (k : Int) (x : An) : Value := .tuple #[.string ⟨(if chk20 k x = 0 then txt20 k x else []).toArray⟩, erv (chk20 k x)]

set_option maxHeartbeats 2000000 in
theorem text_ok {k : Int} {w : World} {x : An} {ha : Option Addr} {hn hc : Nat} {da : Option Addr} {dn dc : Nat} {ba : Option Addr} {bn bc : Nat} (h : AV w x ha hn hc da dn dc ba bn bc) (ht : Tab w.heap.size w) :
    Calls Tryd.prog 11 #[.int .i64 k, av x (.slice ha hn hc) (.slice da dn dc) (.slice ba bn bc)] w fun e w' => e = .returned (tres k x) ∧ Below w.heap.size w w' := by
  have hck : ∀ w', Below w.heap.size w w' → Calls Tryd.prog 19 #[.int .i64 k, av x (.slice ha hn hc) (.slice da dn dc) (.slice ba bn bc)] w' fun e w'' => e = .returned (cres k x) ∧ Below w'.heap.size w' w'' := fun w' q => check_av (h.below q)
  by_cases hz : chk20 k x = 0
  · obtain ⟨⟨k0, k1⟩, hm⟩ := chk_may hz
    have hck' : ∀ p, pe20 k x.err = p → ∀ w', Below w.heap.size w w' → Calls Tryd.prog 19 #[.int .i64 k, av x (.slice ha hn hc) (.slice da dn dc) (.slice ba bn bc)] w' fun e w'' => e = .returned (.tuple #[p.v, .nilIface]) ∧ Below w'.heap.size w' w'' := fun p hp w' q => by
      have := hck w' q
      unfold cres at this
      rw [hz, if_pos rfl, hp] at this
      exact this
    clear hck
    have hgo : ∀ W, txt20 k x = W → Calls Tryd.prog 11 #[.int .i64 k, av x (.slice ha hn hc) (.slice da dn dc) (.slice ba bn bc)] w (fun e w' => e = .returned (.tuple #[.string ⟨W.toArray⟩, .nilIface]) ∧ Below w.heap.size w w') → Calls Tryd.prog 11 #[.int .i64 k, av x (.slice ha hn hc) (.slice da dn dc) (.slice ba bn bc)] w fun e w' => e = .returned (tres k x) ∧ Below w.heap.size w w' := fun W hW q => by
      unfold tres
      rw [hz, if_pos rfl, hW]
      exact q
    have hhl := h.h.len
    have hdl := h.d.len
    have hbl := h.bl
    obtain ⟨hH, hD, _, hBy, hhd, hb3, hwn, h64⟩ := h
    obtain ⟨err, hs, is, n, ds, c0, c1, c2, c3, sum, d⟩ := x
    dsimp only at hm hck' hhl hdl hbl hH hD hBy
    rcases hm with ⟨he, e1, e2, q1, q2, q3, q4, q5, q6, q7⟩ | ⟨he, o0, o1, o2, o3, o4, o5, o6, o7, o8, o9, o10, o11, o12, o13⟩
    · dsimp only at he e1 e2 q1 q2 q3 q4 q5 q6 q7
      obtain ⟨rfl, rfl, rfl, rfl⟩ := q5
      subst q1 q2 q3 q4 q6 q7
      simp only [List.length_nil] at hhl hdl hbl
      subst hhl hdl hbl
      refine hgo (werror ++ Lib.itoa err) (by unfold txt20; exact if_pos he) ?_
      exact text_num k err he (by omega) (by omega) ha hc da dc ba bc w ht (hck' pz (by unfold pe20; rw [if_neg he]))
    · dsimp only at he o1 o2 o3 o4 o5 o6 o7 o8 o9 o10 o11 o12 o13
      subst he
      have hpe : pe20 k 0 = p20 k := by unfold pe20; rw [if_pos rfl]
      rw [hpe] at hck'
      have fl : ¬ (k = 6 ∨ k = 7 ∨ k = 8 ∨ k = 12) → flg k = false := fun q => by
        cases hf : flg k
        · rfl
        · exact absurd ((flg_iff k).1 hf) q
      rw [flg_iff] at o2
      have zi : ¬ (k = 6 ∨ k = 7 ∨ k = 8 ∨ k = 12) → is = false := fun q => by rcases o2 with g | g; exact g; exact absurd g q
      have zn : ¬ k = 9 → n = 0 := fun q => by omega
      have zd : ¬ (k = 10 ∨ k = 17) → ds = [] := fun q => by rcases o4 with g | g; exact g; exact absurd g q
      have zc : ¬ k = 11 → c0 = 0 ∧ c1 = 0 ∧ c2 = 0 ∧ c3 = 0 := fun q => by omega
      have zs : ¬ k = 13 → sum = 0 := fun q => by omega
      have zD : ¬ k = 14 → d = [] := fun q => by rcases o8 with g | g; exact g; exact absurd g q
      have zh : ¬ (k = 1 ∨ k = 3 ∨ k = 16) → hs = [] := fun q => by
        unfold hnd at o1
        rw [if_neg (by omega), if_neg (by omega)] at o1
        exact List.eq_nil_of_length_eq_zero o1
      have hc064 := h64.c0
      have hc164 := h64.c1
      have hc264 := h64.c2
      have hc364 := h64.c3
      have hn64 := h64.n
      have hs64 := And.intro hwn.s0 hwn.s1
      dsimp only at hc064 hc164 hc264 hc364 hn64 hs64
      clear o2 o3 o4 o6 o7 o8 hpe h64 hwn hz
      rcases (by omega : (k = 1 ∨ k = 3) ∨ k = 16 ∨ (k = 6 ∨ k = 7 ∨ k = 8 ∨ k = 12) ∨ k = 9 ∨ k = 10 ∨ k = 17 ∨ k = 11 ∨ k = 13 ∨ k = 14 ∨ (k = 2 ∨ k = 4 ∨ k = 5 ∨ k = 15)) with g | g | g | g | g | g | g | g | g | g
      · have hl : hs.length = 1 := by rw [o1]; unfold hnd; rw [if_pos g]
        obtain ⟨y, rfl⟩ := List.length_eq_one_iff.1 hl
        obtain ⟨rfl, rfl, rfl, rfl⟩ := zc (by omega)
        obtain rfl := zi (by omega)
        obtain rfl := zn (by omega)
        obtain rfl := zd (by omega)
        obtain rfl := zs (by omega)
        obtain rfl := zD (by omega)
        simp only [List.length_nil, List.length_cons, Nat.zero_add] at hhl hdl hbl
        subst hhl hdl hbl
        refine hgo (nmh y) (by have n9 : ¬ k = 9 := (by omega); have n11 : ¬ k = 11 := (by omega); have n13 : ¬ k = 13 := (by omega); have ff := fl (by omega); unfold txt20 wds; simp [ff, n9, n11, n13, jw_one, nmh_ne]) ?_
        exact text_h1 k ha hc da dc ba bc y w ht hH (hck' { pz with h := 1 } (by unfold p20; rw [if_pos g]))
      · have hl : hs.length = 2 := by rw [o1]; unfold hnd; rw [if_neg (by omega), if_pos g]
        obtain ⟨y, z, rfl⟩ : ∃ y z, hs = [y, z] := by
          match hs, hl with
          | [y, z], _ => exact ⟨y, z, rfl⟩
        obtain ⟨rfl, rfl, rfl, rfl⟩ := zc (by omega)
        obtain rfl := zi (by omega)
        obtain rfl := zn (by omega)
        obtain rfl := zd (by omega)
        obtain rfl := zs (by omega)
        obtain rfl := zD (by omega)
        simp only [List.length_nil, List.length_cons, Nat.zero_add, Nat.reduceAdd] at hhl hdl hbl
        subst hhl hdl hbl
        refine hgo (jw [nmh y, nmh z]) (by have n9 : ¬ k = 9 := (by omega); have n11 : ¬ k = 11 := (by omega); have n13 : ¬ k = 13 := (by omega); have ff := fl (by omega); unfold txt20 wds; simp [ff, n9, n11, n13, jw, nmh_ne]) ?_
        exact text_h2 k ha hc da dc ba bc y z w ht hH (hck' { pz with h := 2 } (by unfold p20; rw [if_neg (by omega), if_pos g]))
      · obtain rfl := zh (by omega)
        obtain ⟨rfl, rfl, rfl, rfl⟩ := zc (by omega)
        obtain rfl := zn (by omega)
        obtain rfl := zd (by omega)
        obtain rfl := zs (by omega)
        obtain rfl := zD (by omega)
        simp only [List.length_nil] at hhl hdl hbl
        subst hhl hdl hbl
        refine hgo (yn is) (by have n9 : ¬ k = 9 := (by omega); have n11 : ¬ k = 11 := (by omega); have n13 : ¬ k = 13 := (by omega); unfold txt20 wds; simp [(flg_iff k).2 g, n9, n11, n13, jw_one, yn_ne]) ?_
        exact text_i k ha hc da dc ba bc is w ht (hck' { pz with i := true } (by unfold p20; rw [if_neg (by omega), if_neg (by omega), if_pos g]))
      · obtain rfl := zh (by omega)
        obtain ⟨rfl, rfl, rfl, rfl⟩ := zc (by omega)
        obtain rfl := zi (by omega)
        obtain rfl := zd (by omega)
        obtain rfl := zs (by omega)
        obtain rfl := zD (by omega)
        simp only [List.length_nil] at hhl hdl hbl
        subst hhl hdl hbl
        refine hgo (Lib.itoa n) (by have n11 : ¬ k = 11 := (by omega); have n13 : ¬ k = 13 := (by omega); have ff := fl (by omega); unfold txt20 wds; simp [ff, g, flg9, flg10, flg17, flg11, flg13, flg14, n11, n13, jw_one, itoa_ne]) ?_
        exact text_n k ha hc da dc ba bc n hn64.1 hn64.2 w ht (hck' { pz with n := true } (by unfold p20; rw [if_neg (by omega), if_neg (by omega), if_neg (by omega), if_pos g]))
      · obtain rfl := zh (by omega)
        obtain ⟨rfl, rfl, rfl, rfl⟩ := zc (by omega)
        obtain rfl := zi (by omega)
        obtain rfl := zn (by omega)
        obtain rfl := zs (by omega)
        obtain rfl := zD (by omega)
        simp only [List.length_nil] at hhl hbl
        subst hhl hbl
        have hck2 := hck' { pz with f := true } (by unfold p20; rw [if_neg (by omega), if_neg (by omega), if_neg (by omega), if_neg (by omega), if_pos g])
        by_cases hds : ds = []
        · subst hds
          simp only [List.length_nil] at hdl
          subst hdl
          refine hgo wnone (by have ff := fl (by omega); unfold txt20 wds nth20; simp [ff, g, flg9, flg10, flg17, flg11, flg13, flg14, jw_nil]) ?_
          exact text_f0 k ha hc da dc ba bc w ht hck2
        · have hj : jw (ds.map nmd) ≠ [] := jw_ne (fun w hw => by obtain ⟨z, _, rfl⟩ := List.mem_map.1 hw; exact nmd_ne z) (by simpa using hds)
          refine hgo (jw (ds.map nmd)) (by have ff := fl (by omega); unfold txt20 wds; simp [ff, g, flg9, flg10, flg17, flg11, flg13, flg14, hj]) ?_
          exact text_f k ha hc da dn dc ba bc ds w ht hD hds o13 (by omega) hck2
      · obtain rfl := zh (by omega)
        obtain ⟨rfl, rfl, rfl, rfl⟩ := zc (by omega)
        obtain rfl := zi (by omega)
        obtain rfl := zn (by omega)
        obtain rfl := zs (by omega)
        obtain rfl := zD (by omega)
        simp only [List.length_nil] at hhl hbl
        subst hhl hbl
        have hds : ds ≠ [] := by rintro rfl; simp at o5; omega
        have hj : jw (ds.map nmd) ≠ [] := jw_ne (fun w hw => by obtain ⟨z, _, rfl⟩ := List.mem_map.1 hw; exact nmd_ne z) (by simpa using hds)
        refine hgo (jw (ds.map nmd)) (by have ff := fl (by omega); unfold txt20 wds; simp [ff, g, flg9, flg10, flg17, flg11, flg13, flg14, hj]) ?_
        exact text_t k ha hc da dn dc ba bc ds w ht hD hds o13 (by omega) (hck' { pz with t := true } (by unfold p20; rw [if_neg (by omega), if_neg (by omega), if_neg (by omega), if_neg (by omega), if_neg (by omega), if_pos g]))
      · obtain rfl := zh (by omega)
        obtain rfl := zi (by omega)
        obtain rfl := zn (by omega)
        obtain rfl := zd (by omega)
        obtain rfl := zs (by omega)
        obtain rfl := zD (by omega)
        simp only [List.length_nil] at hhl hdl hbl
        subst hhl hdl hbl
        refine hgo (jw [Lib.itoa c0, Lib.itoa c1, Lib.itoa c2, Lib.itoa c3]) (by have ff := fl (by omega); unfold txt20 wds; simp [ff, g, flg9, flg10, flg17, flg11, flg13, flg14, jw, itoa_ne]) ?_
        exact text_c k ha hc da dc ba bc c0 c1 c2 c3 hc064 hc164 hc264 hc364 w ht (hck' { pz with c := true } (by unfold p20; rw [if_neg (by omega), if_neg (by omega), if_neg (by omega), if_neg (by omega), if_neg (by omega), if_neg (by omega), if_pos g]))
      · obtain rfl := zh (by omega)
        obtain ⟨rfl, rfl, rfl, rfl⟩ := zc (by omega)
        obtain rfl := zi (by omega)
        obtain rfl := zn (by omega)
        obtain rfl := zd (by omega)
        obtain rfl := zD (by omega)
        simp only [List.length_nil] at hhl hdl hbl
        subst hhl hdl hbl
        refine hgo (Lib.itoa sum) (by have ff := fl (by omega); unfold txt20 wds; simp [ff, g, flg9, flg10, flg17, flg11, flg13, flg14, jw_one, itoa_ne]) ?_
        exact text_s k ha hc da dc ba bc sum hs64.1 hs64.2 w ht (hck' { pz with s := true } (by unfold p20; rw [if_neg (by omega), if_neg (by omega), if_neg (by omega), if_neg (by omega), if_neg (by omega), if_neg (by omega), if_neg (by omega), if_pos g]))
      · obtain rfl := zh (by omega)
        obtain ⟨rfl, rfl, rfl, rfl⟩ := zc (by omega)
        obtain rfl := zi (by omega)
        obtain rfl := zn (by omega)
        obtain rfl := zd (by omega)
        obtain rfl := zs (by omega)
        simp only [List.length_nil] at hhl hdl
        subst hhl hdl
        have hck2 := hck' { pz with d := true } (by unfold p20; rw [if_neg (by omega), if_neg (by omega), if_neg (by omega), if_neg (by omega), if_neg (by omega), if_neg (by omega), if_neg (by omega), if_neg (by omega), if_pos g])
        by_cases hds : d = []
        · subst hds
          simp only [List.length_nil] at hbl
          subst hbl
          refine hgo wempty (by have ff := fl (by omega); unfold txt20 wds nth20; simp [ff, g, flg9, flg10, flg17, flg11, flg13, flg14, jw_nil]) ?_
          exact text_d0 k ha hc da dc ba bc w ht hck2
        · have hj : d.flatMap hex1 ≠ [] := by
            cases d with
            | nil => exact absurd rfl hds
            | cons x xs => simp [hex1]
          refine hgo (d.flatMap hex1) (by
            have ff := fl (by omega)
            have n9 : ¬ k = 9 := by omega
            have n11 : ¬ k = 11 := by omega
            have n13 : ¬ k = 13 := by omega
            unfold txt20 wds
            simp only [ff, n9, n11, n13, g, flg14, jw_nil, List.map_nil, List.nil_append, Bool.false_eq_true, if_false, Int.reduceEq, ne_eq, not_true_eq_false, if_neg hj]) ?_
          exact text_d k ha hc da dc ba bn bc d w ht hBy hds hbl hb3 hck2
      · obtain rfl := zh (by omega)
        obtain ⟨rfl, rfl, rfl, rfl⟩ := zc (by omega)
        obtain rfl := zi (by omega)
        obtain rfl := zn (by omega)
        obtain rfl := zd (by omega)
        obtain rfl := zs (by omega)
        obtain rfl := zD (by omega)
        simp only [List.length_nil] at hhl hdl hbl
        subst hhl hdl hbl
        refine hgo wok (by have n9 : ¬ k = 9 := (by omega); have n11 : ¬ k = 11 := (by omega); have n13 : ¬ k = 13 := (by omega); have n10 : ¬ k = 10 := (by omega); have n14 : ¬ k = 14 := (by omega); have ff := fl (by omega); unfold txt20 wds nth20; simp [ff, n9, n11, n13, n10, n14, jw_nil]) ?_
        exact text_z k ha hc da dc ba bc w ht (hck' pz (p20_z g))
  · have hck2 : ∀ w', Below w.heap.size w w' → Calls Tryd.prog 19 #[.int .i64 k, av x (.slice ha hn hc) (.slice da dn dc) (.slice ba bn bc)] w' fun e w'' => e = .returned (.tuple #[.agg zcs, .iface 93 (.int .i64 (chk20 k x))]) ∧ Below w'.heap.size w' w'' := fun w' q => by
      have := hck w' q
      unfold cres at this
      rw [if_neg hz] at this
      unfold erv at this
      rw [if_neg hz] at this
      exact this
    unfold tres erv
    rw [if_neg hz, if_neg hz]
    exact text_err k (chk20 k x) x ha hn hc da dn dc ba bn bc w hck2

end Go.Proofs.YtkopcfpghklbbaaDoor
