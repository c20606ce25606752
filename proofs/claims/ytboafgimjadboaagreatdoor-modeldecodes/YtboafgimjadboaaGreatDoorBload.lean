/- Lists that are loaded, number by number: plain mathematics. 'fill', walked. 'paired', walked. 'Load', walked. -/
import Derived.Test.YtboafgimjadboaaGreatDoorBdoc
import Derived.Test.YtboafgimjadboaaGreatDoorBpure
import Derived.Test.YtboafgimjadboaaGreatDoorBtlay
import Derived.Test.YtboafgimjadboaaGreatDoorIntsM10
namespace Go.Proofs.YtboafgimjadboaaGreatDoor
set_option linter.unusedVariables false

def row (ls : List (List Int)) (v : Nat) : List Nat := ((ls[v]?).getD []).map Int.toNat

/-- Behind v lists and k numbers of the next one. -/
def RR (ls : List (List Int)) (v k : Nat) : Nat → List Nat := fun u => if u < v then row ls u else if u = v then (row ls v).take k else []

/-- A number may come. -/
def okD (V E : Nat) (R : Nat → List Nat) (d : Int) : Prop := 0 ≤ d ∧ d < 2 * (E : Int) ∧ ¬ In V R d.toNat

theorem RR_zero (ls : List (List Int)) : RR ls 0 0 = fun _ => [] := by
  funext u
  unfold RR
  simp

theorem RR_self (ls : List (List Int)) (v k : Nat) : RR ls v k v = (row ls v).take k := by
  unfold RR
  simp

theorem RR_step {ls : List (List Int)} {v k : Nat} {l : List Int} {z : Int} (hl : ls[v]? = some l) (hz : l[k]? = some z) : RR ls v (k + 1) = upd (RR ls v k) v (RR ls v k v ++ [z.toNat]) := by
  have hr : (row ls v)[k]? = some z.toNat := by unfold row; rw [hl]; simp [hz]
  funext u
  unfold upd
  by_cases e : u = v
  · subst e
    rw [if_pos rfl, RR_self, RR_self, List.take_add_one, hr]
    rfl
  · rw [if_neg e]
    unfold RR
    simp [e]

theorem RR_next {ls : List (List Int)} {v : Nat} {l : List Int} (hl : ls[v]? = some l) : RR ls v l.length = RR ls (v + 1) 0 := by
  have hr : (row ls v).length = l.length := by unfold row; rw [hl]; simp
  funext u
  unfold RR
  by_cases h1 : u < v
  · rw [if_pos h1, if_pos (by omega)]
  · rw [if_neg h1]
    by_cases h2 : u = v
    · subst h2
      rw [if_pos rfl, if_pos (by omega), List.take_of_length_le (by omega)]
    · rw [if_neg h2, if_neg (by omega)]
      split <;> simp

/-- All numbers come. -/
def Ok (V E : Nat) (ls : List (List Int)) : Prop := ∀ v l k z, ls[v]? = some l → l[k]? = some z → okD V E (RR ls v k) z

/-- A dart behind the last one is one at the end. -/
theorem ins_last {l : List Nat} {b d : Nat} (hn : (l ++ [b]).Nodup) : ins (l ++ [b]) b d = l ++ [b] ++ [d] := by
  have hb : b ∉ l := fun h => by
    rw [List.nodup_append] at hn
    exact hn.2.2 b h b (by simp) rfl
  have := ins_split (B := []) (d := d) hb
  rw [this]
  simp

theorem Tn.append {V E : Nat} {R : Nat → List Nat} (h : Tn V E R) {v d : Nat} (hv : v < V) (hd : ¬ In V R d) (hl : d < 2 * E) : Tn V E (upd R v (R v ++ [d])) := by
  have := h.put (b := none) hv (fun y e => by cases e) hd hl
  exact this

end Go.Proofs.YtboafgimjadboaaGreatDoor

namespace Go.Proofs.YtboafgimjadboaaGreatDoor
open Go.RowKit
set_option linter.unusedVariables false

/-- The corner behind the last one. -/
def Le (l : List Nat) (b : Int) : Prop := (b = -1 ∧ l = []) ∨ ∃ A, ∃ y : Nat, b = (y : Int) ∧ l = A ++ [y]

theorem Le.co {V : Nat} {R : Nat → List Nat} {v : Nat} {b : Int} (h : Le (R v) b) (hv : v < V) : Co V R (v : Int) b := by
  rcases h with ⟨rfl, h⟩ | ⟨A, y, rfl, h⟩
  · exact ⟨v, rfl, hv, .inl ⟨rfl, h⟩⟩
  · exact ⟨v, rfl, hv, .inr ⟨y, rfl, by rw [h]; simp⟩⟩

theorem Le.put {V E : Nat} {R : Nat → List Nat} {v d : Nat} {b : Int} (h : Le (R v) b) (hv : v < V) (ht : Tn V E R) : putR R v (Proofs.YtboafgimjadboaaGreatDoor.co b) d = upd R v (R v ++ [d]) := by
  unfold putR
  congr 1
  rcases h with ⟨rfl, h⟩ | ⟨A, y, rfl, h⟩
  · rw [co_none]; rfl
  · rw [co_some, h]
    have hn := ht.nd v hv
    rw [h] at hn
    exact ins_last hn

theorem TA.cE {w : World} {lo tb V E : Nat} {R : Nat → List Nat} (h : TA w lo tb V E R) : w.cell? ⟨tb, 1, none⟩ = some (.int .i64 (E : Int)) := by
  obtain ⟨dv, sv, K, M, D, S, h1, h2⟩ := h
  exact h1.c1

set_option maxRecDepth 100000 in
set_option maxHeartbeats 4000000 in
theorem fill_ok {W w : World} {tb V E v : Nat} {ls : List (List Int)} {l : List Int} {u : Value} (h : TA w W.heap.size tb V E (RR ls v 0)) (hl : ls[v]? = some l) (hv : v < V) (hu : IV W u l) (hB : Below W.heap.size W w) :
    Calls Tryz.prog 82 #[.pointer (some ⟨tb, 0, none⟩), .int .i64 (v : Int), u] w fun x w' => ∃ z : Bool, x = .returned (.bool z) ∧ Kp W.heap.size w w' ∧ (z = true → (∀ k d, l[k]? = some d → okD V E (RR ls v k) d) ∧ TA w' W.heap.size tb V E (RR ls (v + 1) 0)) ∧ (z = false → ∃ k d, l[k]? = some d ∧ ¬ okD V E (RR ls v k) d) := by
  have hEb := h.hE
  have hVb := h.hV
  obtain ⟨ad, n, cap, rfl, hs⟩ := hu
  have hlen := hs.len
  have hbig := hs.big
  replace hs := hid hs
  replace hB := hid hB
  replace hl := hid hl
  have hg0 := hid (heap_alloc_new w (.cells #[.int .i64 (v : Int), .int .i64 (-1)] 203))
  have hb0 := hid (balloc w (.cells #[.int .i64 (v : Int), .int .i64 (-1)] 203))
  have h0 := hid (h.more hb0.out)
  clear h
  obtain ⟨wa, hwa⟩ : ∃ wa, w.alloc (.cells #[.int .i64 (v : Int), .int .i64 (-1)] 203) = wa := ⟨_, rfl⟩
  rw [hwa] at hg0 hb0 h0
  replace hwa := hid hwa
  go_enter Tryz.func82, Tryz.ntmps82
  go_wp2_with fail
  rw [hwa.out]
  clear hwa
  go_loopw [9, 14] (fun _ s14 wr => ∃ (k : Nat) (b : Int), k ≤ n ∧ s14 = .int .i64 (k : Int) ∧ Hid (wr.heap[w.heap.size]? = some (.cells #[.int .i64 (v : Int), .int .i64 b] 203 (0, 0)) ∧ TA wr W.heap.size tb V E (RR ls v k) ∧ Kp W.heap.size w wr ∧ (∀ j d, j < k → l[j]? = some d → okD V E (RR ls v j) d) ∧ Le (RR ls v k v) b)) (fun _ s14 _ => n - (intOf s14).toNat)
  case atStart => exact ⟨0, -1, by omega, by go_num, hg0.out, h0.out, Kp.ofBelow hb0.out _, fun j d hj => by omega, .inl ⟨rfl, by rw [RR_self]; simp⟩⟩
  case round =>
    obtain ⟨k, b, hk, rfl, hst⟩ := hrel
    have hlo : W.heap.size ≤ w.heap.size := hB.out.size
    by_cases hc : k < n
    · obtain ⟨z, hz⟩ : ∃ z, l[k]? = some z := ⟨_, List.getElem?_eq_getElem (by omega)⟩
      have hBr := hB.out.trans (hst.out.2.2.1.below hlo)
      obtain ⟨ab, ao, rfl, cz⟩ := (hs.out.below hBr).cell k z hz
      have t1 : decide ((k : Int) < (n : Int)) = true := decide_eq_true (by omega)
      replace hz := hid hz
      clear hBr hg0 h0 hb0
      by_cases hr : z < 0 ∨ 2 * (E : Int) ≤ z
      · have hcv := hid (covers_no z hEb hst.out.2.1.cE hr)
        replace hr := hid hr
        go_wp2_with fail
        refine hcv.out.mono ?_
        rintro x w2 ⟨rfl, rfl⟩
        go_wp2_with fail
        go_ret
        refine ⟨false, rfl, hst.out.2.2.1, by simp, fun _ => ⟨k, z, hz.out, fun hq => ?_⟩⟩
        obtain ⟨q1, q2, _⟩ := hq
        rcases hr.out with q | q <;> omega
      · obtain ⟨d, rfl⟩ : ∃ d : Nat, z = (d : Int) := ⟨z.toNat, by omega⟩
        have hd : d < 2 * E := by omega
        have hcv := hid (covers_yes d hEb hst.out.2.1.cE hd)
        obtain ⟨a, p, o, hat, _, _, _, ho⟩ := at_any hst.out.2.1 (d : Int)
        replace hat := hid hat
        replace ho := hid ho
        clear hr
        by_cases hi : In V (RR ls v k) d
        · have hne : o ≠ -1 := fun e => (ho.out.1 e) ⟨d, rfl, hi⟩
          have hla := hid (fun y => dlaid_yes (a : Int) (p : Int) o y hne)
          replace hi := hid hi
          clear hne
          go_wp2_with fail
          refine hcv.out.mono ?_
          rintro x w2 ⟨rfl, rfl⟩
          go_wp2_with fail
          refine (hat.out _ (Below.refl _ _)).mono ?_
          rintro x w3 ⟨rfl, b3⟩
          replace b3 := hid b3
          go_wp2_with fail
          refine (hla.out _).mono ?_
          rintro x w4 ⟨rfl, b4⟩
          have hb4 := hid (b3.out.trans (b4.mono b3.out.size))
          clear b4
          go_wp2_with fail
          go_ret
          exact ⟨false, rfl, hst.out.2.2.1.trans (Kp.ofBelow hb4.out _), by simp, fun _ => ⟨k, _, hz.out, fun hq => hq.2.2 (by simpa using hi.out)⟩⟩
        · obtain rfl : o = -1 := ho.out.2 (fun ⟨d', e, hd'⟩ => by
            obtain rfl : d = d' := by omega
            exact hi hd')
          have hla := hid (fun y => dlaid_no (a : Int) (p : Int) y)
          have hok : Hid (okD V E (RR ls v k) (d : Int)) := ⟨by omega, by omega, by simpa using hi⟩
          have hco := hst.out.2.2.2.2.co hv
          have hpe := hst.out.2.2.2.2.put (d := d) hv hst.out.2.1.tn
          have hrs := RR_step hl.out hz.out
          have hpt := hid (fun y (hy : TA y W.heap.size tb V E (RR ls v k)) => hy.putc d v b hco hd hi)
          rw [hpe, show d = ((d : Int)).toNat by simp, ← hrs] at hpt
          simp only [Int.toNat_natCast] at hpt
          replace hi := hid hi
          clear hco hpe hrs
          go_wp2_with fail
          refine hcv.out.mono ?_
          rintro x w2 ⟨rfl, rfl⟩
          go_wp2_with fail
          refine (hat.out _ (Below.refl _ _)).mono ?_
          rintro x w3 ⟨rfl, b3⟩
          replace b3 := hid b3
          go_wp2_with fail
          refine (hla.out _).mono ?_
          rintro x w4 ⟨rfl, b4⟩
          have hb4 := hid (b3.out.trans (b4.mono b3.out.size))
          have ha4 := hid (hst.out.2.1.more hb4.out)
          have hk4 := hid (hst.out.2.2.1.trans (Kp.ofBelow hb4.out W.heap.size))
          have hg4 := hid ((hb4.out.block _ (Array.getElem?_eq_some_iff.1 hst.out.1).1).trans hst.out.1)
          have hold := hid hst.out.2.2.2.1
          have hle := hid hst.out.2.2.2.2
          clear b4 b3 hb4 hst hat hcv hla cz
          obtain ⟨q0, q1, _, _⟩ := blk2' hg4.out
          go_wp2_with fail
          refine (hpt.out _ ha4.out).mono ?_
          rintro x w5 ⟨rfl, a5, k5⟩
          have hg5 := hid ((k5.keep ⟨_, _, hg4.out⟩ (by decide) (by decide) (by decide)).trans hg4.out)
          have hk5 := hid (hk4.out.trans k5)
          have s1 := hid (a5.setc (k := 1) ⟨_, _, hg5.out⟩ (.int .i64 (d : Int)))
          have s2 := hid (hk5.out.setNew (p := ⟨w.heap.size, 1, none⟩) (Nat.le_refl _) (.int .i64 (d : Int)))
          have s3 := hid (set_block (k := 1) hg5.out (.int .i64 (d : Int)))
          clear a5 k5 hk4 hg4 ha4 q0 q1 hpt
          obtain ⟨q0, q1, f0, f1⟩ := blk2' hg5.out
          go_wp2_with fail
          go_roundw
          case rel =>
            refine ⟨k + 1, (d : Int), by omega, by go_num, s3.out, s1.out, s2.out, fun j d' hj hd' => ?_, .inr ⟨RR ls v k v, d, rfl, ?_⟩⟩
            · by_cases e : j = k
              · subst e
                obtain rfl : (d : Int) = d' := Option.some.inj (hz.out.symm.trans hd')
                exact hok.out
              · exact hold.out j d' (by omega) hd'
            · rw [RR_step hl.out hz.out, upd_same]
              simp
          case measure => simp [intOf]; omega
    · obtain rfl : n = k := by omega
      have t1 : decide ((n : Int) < (n : Int)) = false := decide_eq_false (by omega)
      clear hg0 h0 hb0
      go_wp2_with fail
      go_ret
      refine ⟨true, rfl, hst.out.2.2.1, fun _ => ⟨fun j d hd => hst.out.2.2.2.1 j d (by have := (List.getElem?_eq_some_iff.1 hd).1; omega) hd, ?_⟩, by simp⟩
      have := hst.out.2.1
      rw [← hlen, RR_next hl.out] at this
      exact this

end Go.Proofs.YtboafgimjadboaaGreatDoor

namespace Go.Proofs.YtboafgimjadboaaGreatDoor
open Go.RowKit
set_option linter.unusedVariables false

theorem TA.laid {w : World} {lo tb V E : Nat} {R : Nat → List Nat} (h : TA w lo tb V E R) (d : Nat) : ∃ (a p : Nat) (o : Int) (z : Bool), (z = true ↔ In V R d) ∧ (∀ y, Below w.heap.size w y → Calls Tryz.prog 101 #[.pointer (some ⟨tb, 0, none⟩), .int .i64 (d : Int)] y fun e w' => e = .returned (.agg #[.int .i32 (a : Int), .int .i32 (p : Int), .int .i32 o]) ∧ Below y.heap.size y w') ∧
    ∀ y, Calls Tryz.prog 102 #[.agg #[.int .i32 (a : Int), .int .i32 (p : Int), .int .i32 o]] y fun e w' => e = .returned (.bool z) ∧ Below y.heap.size y w' := by
  obtain ⟨a, p, o, hat, _, _, _, ho⟩ := at_any h (d : Int)
  by_cases e : o = -1
  · subst e
    have hn := ho.1 rfl
    exact ⟨a, p, -1, false, ⟨fun q => absurd q (by decide), fun q => absurd ⟨d, rfl, q⟩ hn⟩, hat, fun y => dlaid_no _ _ y⟩
  · refine ⟨a, p, o, true, ⟨fun _ => ?_, fun _ => rfl⟩, hat, fun y => dlaid_yes _ _ o y e⟩
    by_cases hi : In V R d
    · exact hi
    · exact absurd (ho.2 (fun ⟨d', q, hd'⟩ => by
        obtain rfl : d = d' := by omega
        exact hi hd')) e

set_option maxRecDepth 100000 in
set_option maxHeartbeats 4000000 in
theorem paired_ok {w : World} {lo tb V E : Nat} {R : Nat → List Nat} (h : TA w lo tb V E R) :
    Calls Tryz.prog 83 #[.pointer (some ⟨tb, 0, none⟩)] w fun x w' => ∃ z : Bool, x = .returned (.bool z) ∧ Below w.heap.size w w' ∧ (z = true ↔ Tw V E R) := by
  have hEb := h.hE
  have hla := hid (fun d => h.laid d)
  obtain ⟨dv, sv, K, M, D, S, h1, h2⟩ := h
  have hK := h1.hK
  have c2 := h1.c2
  obtain ⟨ad, cap, rfl, hc1, hc2⟩ := own_any h1.da
  have hfar : Hid (∀ e, (K + 1) / 2 ≤ e → ¬ In V R (2 * e) ∧ ¬ In V R (2 * e + 1)) := fun e he => by
    have q : ∀ d, K ≤ d → ¬ In V R d := fun d hd hi => by
      have hl := (h2.laid d).2 hi
      rw [h1.rd d hd] at hl
      simp [nw] at hl
    exact ⟨q _ (by omega), q _ (by omega)⟩
  have hs := hid (fun e (he : e ≤ 1048576) y => sides_ok e y he)
  have hq : (K + 1) / 2 ≤ E := by omega
  obtain ⟨H, hH⟩ : ∃ H, (K + 1) / 2 = H := ⟨_, rfl⟩
  have hdv : Int.tdiv ((K : Int) + 1) 2 = (H : Int) := by rw [Int.tdiv_eq_ediv_of_nonneg (by omega), ← hH]; omega
  rw [hH] at hfar hq
  clear h1 h2
  go_enter Tryz.func83, Tryz.ntmps83
  go_wp2_with fail
  try simp only [hdv]
  clear hdv c2
  go_loopw [3, 4, 5, 13] (fun _ _ _ s13 wr => ∃ e : Nat, e ≤ H ∧ s13 = .int .i64 (e : Int) ∧ Hid (Below w.heap.size w wr ∧ ∀ e', e' < e → (In V R (2 * e') ↔ In V R (2 * e' + 1)))) (fun _ _ _ s13 _ => H - (intOf s13).toNat)
  case atStart => exact ⟨0, by omega, by go_num, Below.refl _ _, fun e he => by omega⟩
  case round =>
    obtain ⟨e, he, rfl, hst⟩ := hrel
    by_cases hc : e < H
    · have t1 : decide ((e : Int) < (H : Int)) = true := decide_eq_true (by omega)
      obtain ⟨a1, p1, o1, z1, hz1, hat1, hl1⟩ := hla.out (2 * e)
      obtain ⟨a2, p2, o2, z2, hz2, hat2, hl2⟩ := hla.out (2 * e + 1)
      replace hz1 := hid hz1
      replace hz2 := hid hz2
      replace hat1 := hid hat1
      replace hat2 := hid hat2
      replace hl1 := hid hl1
      replace hl2 := hid hl2
      have hss := hid (hs.out e (by omega))
      go_wp2_with fail
      refine (hss.out _).mono ?_
      rintro x w2 ⟨rfl, rfl⟩
      go_wp2_with fail
      refine (hat1.out _ hst.out.1).mono ?_
      rintro x w3 ⟨rfl, b3⟩
      have hb3 := hid (hst.out.1.trans (b3.mono hst.out.1.size))
      clear b3
      go_wp2_with fail
      refine (hl1.out _).mono ?_
      rintro x w4 ⟨rfl, b4⟩
      have hb4 := hid (hb3.out.trans (b4.mono hb3.out.size))
      clear b4 hb3
      go_wp2_with fail
      refine (hat2.out _ hb4.out).mono ?_
      rintro x w5 ⟨rfl, b5⟩
      have hb5 := hid (hb4.out.trans (b5.mono hb4.out.size))
      clear b5 hb4
      go_wp2_with fail
      refine (hl2.out _).mono ?_
      rintro x w6 ⟨rfl, b6⟩
      have hb6 := hid (hb5.out.trans (b6.mono hb5.out.size))
      clear b6 hb5
      by_cases hzz : z1 = z2
      · subst hzz
        cases z1
        all_goals
          go_wp2_with fail
          go_roundw
          case rel =>
            refine ⟨e + 1, by omega, by go_num, hb6.out, fun e' he' => ?_⟩
            by_cases q : e' = e
            · subst q
              exact hz1.out.symm.trans hz2.out
            · exact hst.out.2 e' (by omega)
          case measure => simp [intOf]; omega
      · have hno : Hid (¬ Tw V E R) := fun ht => hzz (by
          have h3 := ht e (by omega)
          have h4 := hz1.out.trans (h3.trans hz2.out.symm)
          cases z1 <;> cases z2 <;> simp_all)
        cases z1 <;> cases z2
        · exact absurd rfl hzz
        · clear hzz
          go_wp2_with fail
          go_ret
          exact ⟨false, rfl, hb6.out, fun q => absurd q (by decide), fun q => absurd q hno.out⟩
        · clear hzz
          go_wp2_with fail
          go_ret
          exact ⟨false, rfl, hb6.out, fun q => absurd q (by decide), fun q => absurd q hno.out⟩
        · exact absurd rfl hzz
    · obtain rfl : H = e := by omega
      have t1 : decide ((H : Int) < (H : Int)) = false := decide_eq_false (by omega)
      go_wp2_with fail
      go_ret
      refine ⟨true, rfl, hst.out.1, fun _ e he => ?_, fun _ => rfl⟩
      by_cases q : e < H
      · exact hst.out.2 e q
      · have := hfar.out e (by omega)
        exact ⟨fun h => absurd h this.1, fun h => absurd h this.2⟩

end Go.Proofs.YtboafgimjadboaaGreatDoor

namespace Go.Proofs.YtboafgimjadboaaGreatDoor
open Go.RowKit
set_option linter.unusedVariables false

/-- The lists are turns. -/
def Good (V E : Nat) (ls : List (List Int)) : Prop := ls.length ≤ V ∧ Ok V E ls ∧ Tw V E (RR ls ls.length 0)

set_option maxRecDepth 100000 in
set_option maxHeartbeats 4000000 in
theorem load_any {V E : Nat} {u : Value} {ls : List (List Int)} {W : World} (h1 : 1 ≤ V) (h2 : V ≤ 1048576) (h3 : 1 ≤ E) (h4 : E ≤ 1048576) (hu : RV W u ls) :
    Calls Tryz.prog 54 #[.int .i64 (V : Int), .int .i64 (E : Int), u] W fun x w' => Below W.heap.size W w' ∧ ((Good V E ls ∧ ∃ tb, x = .returned (.tuple #[.pointer (some ⟨tb, 0, none⟩), .nilIface]) ∧ TA w' W.heap.size tb V E (RR ls ls.length 0)) ∨ (¬ Good V E ls ∧ x = .returned (.tuple #[.pointer none, .iface 67 (.int .i64 3)]))) := by
  obtain ⟨ad, n, cap, rfl, hs⟩ := hu
  have hlen := hs.len
  have hbig := hs.big
  replace hs := hid hs
  have hn := hid (new_ok V E W h1 h2 h3 h4)
  by_cases hl : n ≤ V
  · have t1 : decide ((n : Int) > (V : Int)) = false := decide_eq_false (by omega)
    have t1' : decide ((V : Int) < (n : Int)) = false := decide_eq_false (by omega)
    have t1'' : decide (V < n) = false := decide_eq_false (by omega)
    go_enter Tryz.func54, Tryz.ntmps54
    go_wp2_with fail
    refine hn.out.mono ?_
    rintro x w1 ⟨rfl, a1, b1⟩
    rw [← RR_zero ls] at a1
    replace a1 := hid a1
    replace b1 := hid b1
    go_wp2_with fail
    clear t1 t1' t1''
    go_loopw [10, 11, 28] (fun _ _ s28 wr => ∃ v : Nat, v ≤ n ∧ s28 = .int .i64 (v : Int) ∧ Hid (TA wr W.heap.size W.heap.size V E (RR ls v 0) ∧ Below W.heap.size W wr ∧ ∀ j l k d, j < v → ls[j]? = some l → l[k]? = some d → okD V E (RR ls j k) d)) (fun _ _ s28 _ => n - (intOf s28).toNat)
    case atStart => exact ⟨0, by omega, by go_num, a1.out, b1.out, fun j l k d hj => by omega⟩
    case round =>
      obtain ⟨v, hv, rfl, hst⟩ := hrel
      clear a1 b1 hn
      by_cases hc : v < n
      · have t1 : decide ((v : Int) < (n : Int)) = true := decide_eq_true (by omega)
        obtain ⟨l, hz⟩ : ∃ l, ls[v]? = some l := ⟨_, List.getElem?_eq_getElem (by omega)⟩
        obtain ⟨ab, ao, rw, rfl, cz, hiv⟩ := hs.out.cell v l hz
        have cz' := (hst.out.2.1.cell (World.block_lt_of_cell? W _ cz)).trans cz
        have hf := hid (fill_ok hst.out.1 hz (by omega) hiv hst.out.2.1)
        replace hz := hid hz
        clear cz hiv
        go_wp2_with fail
        refine hf.out.mono ?_
        rintro x w2 ⟨z, rfl, k2, hy, hno⟩
        have hb2 := hid (hst.out.2.1.trans (k2.below hst.out.2.1.size))
        replace hy := hid hy
        replace hno := hid hno
        clear k2 hf cz'
        cases z
        · go_wp2_with fail
          go_ret2
          refine ⟨hb2.out, .inr ⟨fun hq => ?_, rfl⟩⟩
          obtain ⟨k, d, hd, hn⟩ := hno.out (by simp)
          exact hn (hq.2.1 v l k d hz.out hd)
        · go_wp2_with fail
          go_roundw
          case rel =>
            refine ⟨v + 1, by omega, by go_num, (hy.out (by simp)).2, hb2.out, fun j l' k d hj hl' hd => ?_⟩
            by_cases q : j = v
            · subst q
              obtain rfl : l = l' := Option.some.inj (hz.out.symm.trans hl')
              exact (hy.out (by simp)).1 k d hd
            · exact hst.out.2.2 j l' k d (by omega) hl' hd
          case measure => simp [intOf]; omega
      · obtain rfl : n = v := by omega
        have t1 : decide ((n : Int) < (n : Int)) = false := decide_eq_false (by omega)
        have hpd := hid (paired_ok hst.out.1)
        go_wp2_with fail
        refine hpd.out.mono ?_
        rintro x w2 ⟨z, rfl, b2, hz⟩
        have hb2 := hid (hst.out.2.1.trans (b2.mono hst.out.2.1.size))
        have ha2 := hid (hst.out.1.more b2)
        replace hz := hid hz
        clear b2 hpd
        cases z
        · go_wp2_with fail
          go_ret2
          refine ⟨hb2.out, .inr ⟨fun hq => ?_, rfl⟩⟩
          have := hq.2.2
          rw [hlen] at this
          exact absurd (hz.out.2 this) (by decide)
        · go_wp2_with fail
          go_ret2
          refine ⟨hb2.out, .inl ⟨⟨by omega, fun j l k d hj hd => hst.out.2.2 j l k d (by have := (List.getElem?_eq_some_iff.1 hj).1; omega) hj hd, ?_⟩, _, rfl, ?_⟩⟩
          · rw [hlen]; exact hz.out.1 (by simp)
          · rw [hlen]; exact ha2.out
  · have t1 : decide ((n : Int) > (V : Int)) = true := decide_eq_true (by omega)
    have t1' : decide ((V : Int) < (n : Int)) = true := decide_eq_true (by omega)
    have t1'' : decide (V < n) = true := decide_eq_true (by omega)
    go_enter Tryz.func54, Tryz.ntmps54
    go_wp2_with fail
    refine hn.out.mono ?_
    rintro x w1 ⟨rfl, a1, b1⟩
    replace a1 := hid a1
    replace b1 := hid b1
    go_wp2_with fail
    go_ret2
    exact ⟨b1.out, .inr ⟨fun hq => by have := hq.1; omega, rfl⟩⟩

end Go.Proofs.YtboafgimjadboaaGreatDoor
