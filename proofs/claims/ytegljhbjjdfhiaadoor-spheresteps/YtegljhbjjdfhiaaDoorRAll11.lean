/- The document's All, walked. -/
import Derived.Test.YtegljhbjjdfhiaaDoorRWalk11
namespace Go.Proofs.YtegljhbjjdfhiaaDoor
open Go.RowKit
set_option linter.unusedVariables false

open Classical in
/-- The faces whose least darts these are. -/
noncomputable def frl (f : Nat → Nat) (l : List Nat) : List (List Nat) := (l.filter (fun x => decide (Pq.lst f x))).map (Pq.orb f)

theorem frl_yes {f : Nat → Nat} {l : List Nat} {x : Nat} (h : Pq.lst f x) : frl f (l ++ [x]) = frl f l ++ [Pq.orb f x] := by
  classical
  unfold frl
  rw [List.filter_append, List.map_append]
  simp [h]
theorem frl_no {f : Nat → Nat} {l : List Nat} {x : Nat} (h : ¬ Pq.lst f x) : frl f (l ++ [x]) = frl f l := by
  classical
  unfold frl
  rw [List.filter_append, List.map_append]
  simp [h]
theorem frl_le (f : Nat → Nat) (l : List Nat) : (frl f l).length ≤ l.length := by
  classical
  unfold frl
  rw [List.length_map]
  exact List.length_filter_le _ _

theorem frl_fcs (V : Nat) (R : Nat → List Nat) : ∀ n, frl (fx V R) (laid V R n) = fcs V R n
  | 0 => by classical simp [frl, laid, fcs]
  | n + 1 => by
    by_cases hi : In V R n
    · rw [laid_yes hi]
      by_cases hl : Pq.lst (fx V R) n
      · rw [frl_yes hl, fcs_yes hi hl, frl_fcs V R n]
      · rw [frl_no hl, fcs_no (fun q => hl q.2), frl_fcs V R n]
    · rw [laid_no hi, fcs_no (fun q => hi q.1), frl_fcs V R n]

set_option maxRecDepth 100000 in
set_option maxHeartbeats 4000000 in
theorem rall_ok (tv : Value) (E V : Nat) (R : Nat → List Nat) (w : World) (hv : RT w tv E V R) (ht : Tn V E R) (hw : Tw V E R) (hE : E ≤ 1000) (hV : V ≤ 1000) (hl : ∀ u, u < V → (R u).length ≤ 1000) :
    Calls Tryd.prog 24 #[tv] w fun e w' => ∃ u, e = .returned u ∧ Rg w.heap.size w' u (fcs V R (2 * E)) ∧ Below w.heap.size w w' := by
  obtain ⟨i1, hjf, hy0, hy1, hy2⟩ := info_parts infoInts
  have hda := hid (fun y (hy : Below w.heap.size w y) => rdarts_ok tv E V R y (hv.below hy) hE hV hl)
  have hwa := hid (fun (y : World) (x : Nat) (hx : In V R x) (hy : Below w.heap.size w y) => rwalk_ok tv E V x R y (hv.below hy) ht hw hx hE hV hl)
  have hpm := hid (fx_pm ht hw)
  have hlow : Hid (∀ x, In V R x → x < 2 * E) := hid (fun x hx => hx.low ht)
  have hff := hid (frl_fcs V R (2 * E))
  have hml : Hid (∀ x, x ∈ laid V R (2 * E) → In V R x) := hid (fun x hx => (mem_laid.1 hx).2)
  have hll := laid_len V R (2 * E)
  rw [← hff.out]
  clear hff
  generalize laid V R (2 * E) = l at *
  obtain ⟨lv, rfl, hr⟩ := hv
  obtain ⟨c0, c1⟩ := two_new w (.int .i64 (E : Int)) lv 27
  have hbb := hid (balloc w (.cells #[.int .i64 (E : Int), lv] 27))
  obtain ⟨w1, hw1⟩ : ∃ w1, w.alloc (.cells #[.int .i64 (E : Int), lv] 27) = w1 := ⟨_, rfl⟩
  have hs1 : w1.heap.size = w.heap.size + 1 := by rw [← hw1]; simp
  rw [hw1] at c0 c1 hbb
  replace hw1 := hid hw1
  replace hs1 := hid hs1
  clear hr ht hw hl
  go_enter Tryd.func24, Tryd.ntmps24
  go_upto_region 1 with fail
  rw [hw1.out]
  go_wp2_with fail
  refine (hda.out w1 hbb.out).mono ?_
  rintro e w2 ⟨rv, rfl, hnl, b2⟩
  have d0 := hid ((b2.cell (World.block_lt_of_cell? _ _ c0)).trans c0)
  have d1 := hid ((b2.cell (World.block_lt_of_cell? _ _ c1)).trans c1)
  have hb2 := hid (hbb.out.trans (b2.mono hbb.out.size))
  have hnh := hid hnl
  obtain ⟨al, nl, cl, rfl, hnlen, ⟨hncap, _, _⟩, hncm, _⟩ := hnl
  unfold maxLen at hncm
  have hnb : nl ≤ 2000 := by omega
  replace hnlen := hid hnlen
  clear b2 c0 c1 hda hll
  have hst0 : Hid (Rg w2.heap.size w2 (.slice none 0 0) (frl (fx V R) (l.take 0)) ∧ Below w2.heap.size w2 w2) := by
    have : frl (fx V R) (l.take 0) = [] := by classical simp [frl]
    rw [this]
    exact ⟨Rg.nil _ _, Below.refl _ _⟩
  go_wp2_with fail
  go_loopw [3, 5, 6, 7, 8] (fun o u _ _ _ wr => ∃ x : Nat, x ≤ nl ∧ u = .int .i64 (x : Int) ∧ Hid (Rg w2.heap.size wr o (frl (fx V R) (l.take x)) ∧ Below w2.heap.size w2 wr))
    (fun _ u _ _ _ _ => nl - (intOf u).toNat)
  case atStart => exact ⟨0, by omega, by go_num, hst0⟩
  case round =>
    obtain ⟨i, hi, rfl, hst⟩ := hrel
    clear hst0
    rcases Nat.lt_or_ge i nl with hlt | hge
    · obtain ⟨x, hx⟩ : ∃ x, l[i]? = some x := ⟨_, List.getElem?_eq_getElem (by rw [hnlen.out]; exact hlt)⟩
      have hxi := hml.out x (List.mem_of_getElem? hx)
      have hxl := hlow.out x hxi
      have hbw := hst.out.2
      have hbz := hid (hb2.out.trans (hbw.mono hb2.out.size))
      have e0 := (hbw.cell (World.block_lt_of_cell? _ _ d0.out)).trans d0.out
      have e1 := (hbw.cell (World.block_lt_of_cell? _ _ d1.out)).trans d1.out
      obtain ⟨al', nl', cl', e9, _, _, _, hnc⟩ := hnh.out.below hbw
      simp only [Value.slice.injEq] at e9
      obtain ⟨rfl, rfl, rfl⟩ := e9
      obtain ⟨gb, go, rfl, ex⟩ := hnc i x hx
      have hwx := hid (hwa.out wr.drew x hxi hbz.out.drew)
      have i1' : (0 : Int) ≤ (i : Int) := by omega
      have i2' : (i : Int) < (nl : Int) := by omega
      have v1 : decide ((i : Int) < (nl : Int)) = true := decide_eq_true (by omega)
      have htk : Hid (l.take (i + 1) = l.take i ++ [x]) := hid (ntake hx)
      replace hbw := hid hbw
      clear hnc hxi
      go_upto_region 6 with fail
      go_region_held3 (fun y' => y'.cell? ⟨w.heap.size, 0, none⟩ = some (.int .i64 (E : Int)) ∧ y'.cell? ⟨w.heap.size, 1, none⟩ = some lv ∧ y'.cell? ⟨gb, go + i, none⟩ = some (.int .i64 (x : Int))) (first | exact ⟨e0, e1, ex⟩ | exact ⟨f0, f1, fx1⟩ | go_keep) ((go_at_call 51; refine hwx.out.mono ?_; rintro q w3 ⟨c, rfl, hr3, b3⟩; have hb3 := hid b3; have hrw := hid hr3; have f0 := (b3.cell (World.block_lt_of_cell? _ _ e0)).trans e0; have f1 := (b3.cell (World.block_lt_of_cell? _ _ e1)).trans e1; have fx1 := (b3.cell (World.block_lt_of_cell? _ _ ex)).trans ex; clear b3 hr3))
      have hbd : Below wr.heap.size wr w3 := (Below.refl wr.heap.size wr).drew.trans hb3.out
      have hst3 : Hid (Rg w2.heap.size w3 u3 (frl (fx V R) (l.take i)) ∧ Below w2.heap.size w2 w3 ∧ Rw w2.heap.size w3 c (Pq.orb (fx V R) x)) := hid ⟨hst.out.1.more hbd, hbw.out.trans (hbd.mono hbw.out.size), hrw.out.low hbw.out.size⟩
      obtain ⟨d, hd⟩ : ∃ d, (Pq.orb (fx V R) x).length = d := ⟨_, rfl⟩
      have hdn : d ≤ 2000 := by
        have := (hpm.out.per_is hxl).2
        have h2 : (Pq.orb (fx V R) x).length = Pq.per (fx V R) x := by unfold Pq.orb; simp
        omega
      obtain ⟨ac, cc, rfl⟩ : ∃ ac cc, c = .slice ac d cc := by
        obtain ⟨ac, cc, h1, _⟩ := own_any hst3.out.2.2
        exact ⟨ac, cc, by rw [h1, hd]⟩
      replace hd := hid hd
      clear hst hbw hwx e0 e1 ex hbd hrw hb3 f0 f1
      go_wp2_with fail
      go_loopw [7, 8] (fun u7 u8 wy => ∃ k m : Nat, k ≤ d ∧ m ≤ x ∧ u8 = .int .i64 (k : Int) ∧ u7 = .int .i64 (m : Int) ∧ Hid ((m = x ∨ m ∈ Pq.orb (fx V R) x) ∧ (∀ j y, j < k → (Pq.orb (fx V R) x)[j]? = some y → m ≤ y)) ∧ Hid (wy = w3))
        (fun _ u _ => d - (intOf u).toNat)
      case atStart => exact ⟨0, x, by omega, Nat.le_refl _, by go_num, rfl, ⟨.inl rfl, fun j y hj => by omega⟩, rfl⟩
      case round =>
        obtain ⟨k, m, hk, hmx, rfl, rfl, hm, hwy⟩ := hrel
        have hwy' := hwy.out
        subst hwy'
        clear hwy
        rcases Nat.lt_or_ge k d with hkd | hkd
        · obtain ⟨z, hz⟩ : ∃ z, (Pq.orb (fx V R) x)[k]? = some z := ⟨_, List.getElem?_eq_getElem (by rw [hd.out]; exact hkd)⟩
          obtain ⟨g3, q3, c3, e3, _, _, _, hI⟩ := hst3.out.2.2.nl
          obtain ⟨rfl, rfl, rfl⟩ : ac = g3 ∧ d = q3 ∧ cc = c3 := by simpa using e3
          obtain ⟨b4, o4, rfl, c4⟩ := hI k _ hz
          have j3 : (0 : Int) ≤ (k : Int) := by omega
          have j4 : (k : Int) < (d : Int) := by omega
          have v3 : decide ((k : Int) < (d : Int)) = true := decide_eq_true (by omega)
          have hnew : Hid ((min m z = x ∨ min m z ∈ Pq.orb (fx V R) x) ∧ (∀ j y, j < k + 1 → (Pq.orb (fx V R) x)[j]? = some y → min m z ≤ y)) := by
            refine ⟨?_, fun j y hj hy => ?_⟩
            · rcases Nat.le_total m z with h | h
              · rw [Nat.min_eq_left h]; exact hm.out.1
              · rw [Nat.min_eq_right h]; exact .inr (List.mem_of_getElem? hz)
            · by_cases e : j = k
              · subst e
                rw [hz] at hy
                cases hy
                omega
              · have := hm.out.2 j y (by omega) hy
                omega
          have hmin : Hid (min (m : Int) (z : Int) = ((min m z : Nat) : Int)) := hid (by omega)
          clear hI e3 hz hm
          go_wp2_with fail
          try rw [hmin.out]
          go_roundw
          case rel => exact ⟨k + 1, min m z, by omega, by omega, by go_num, by first | rfl | (rw [hmin.out]) | (congr 1; split <;> omega), hnew, by first | exact trivial | exact rfl⟩
          case measure => simp [intOf]; omega
        · obtain rfl : k = d := by omega
          have v3 : decide ((k : Int) < (k : Int)) = false := decide_eq_false (by omega)
          by_cases emx : m = x
          · have hyes : Hid (Pq.lst (fx V R) x) := by
              subst emx
              refine hid (Pq.lst_of.2 (fun y hy => ?_))
              obtain ⟨j, hj⟩ := List.getElem?_of_mem ((hpm.out.mem_orb hxl).2 hy)
              exact hm.out.2 j y (by rw [← hd.out]; exact (List.getElem?_eq_some_iff.1 hj).1) hj
            have t4 : ((m : Int) == (x : Int)) = true := by simp [emx]
            obtain ⟨⟨us, hus, ho, hrs⟩, hB, hR⟩ := hst3.out
            have hle := frl_le (fx V R) (l.take i)
            have hle2 : (frl (fx V R) (l.take i)).length ≤ 2000 := by
              rw [List.length_take] at hle
              omega
            have hba := hid (balloc wr (.cells #[.slice ac k cc] 23))
            have hszr := hB.size
            replace hB := hid hB
            replace hrs := hid hrs
            replace hR := hid hR
            replace hus := hid hus
            clear hm hst3 hle
            subst emx
            go_wp2_with (at_builtin; refine wpList_append_own _ rfl (.tmp 45) (.tmp 47) 25 rfl w2.heap.size 23 i1 _ 1 24 Tryd.underlying25 hjf hy0 hy1 hy2 rfl (by decide) _ _ _ rfl (ho.alloc _) ⟨wr.heap.size, 0, none⟩ 1 1 [.slice ac k cc] rfl rfl (one_new wr _ _) (by simp [Value.oneCell']) (by unfold maxLen; omega) (by omega) (by simp; omega) ?_; intro v5 w5 ho5 hg5 _; refine Hid.out ?_)
            have hnew : Hid (Rg w2.heap.size w5 v5 (frl (fx V R) (l.take (i + 1))) ∧ Below w2.heap.size w2 w5) := by
              rw [htk.out, frl_yes hyes.out]
              exact ⟨Rg.push hus.out (ho.alloc _) (fun i l u hi hj => (hrs.out i l u hi hj).more hba.out) (hR.out.more hba.out) ho5 hg5, below_row (hB.out.alloc hszr _) (Nat.le_refl _) (ho.alloc _) (Nat.le_refl _) hg5⟩
            clear ho5 hg5 ho hrs hR
            refine hid ?_
            go_wp2_with fail
            go_roundw
            case rel => exact ⟨i + 1, by omega, by go_num, hnew⟩
            case measure => simp [intOf]; omega
          · have hno : ¬ Pq.lst (fx V R) x := fun q => by
              rcases hm.out.1 with e | e
              · exact emx e
              · have := Pq.lst_of.1 q m ((hpm.out.mem_orb hxl).1 e)
                omega
            have t4 : ((m : Int) == (x : Int)) = false := by simp; omega
            have t5 : ¬ ((m : Int) = (x : Int)) := by omega
            have hnew : Hid (Rg w2.heap.size wr u3 (frl (fx V R) (l.take (i + 1))) ∧ Below w2.heap.size w2 wr) := by
              rw [htk.out, frl_no hno]
              exact hid ⟨hst3.out.1, hst3.out.2.1⟩
            clear hm hst3 hno
            go_wp2_with fail
            go_roundw
            case rel => exact ⟨i + 1, by omega, by go_num, hnew⟩
            case measure => simp [intOf]; omega
    · obtain rfl : i = nl := by omega
      have v1 : decide ((i : Int) < (i : Int)) = false := decide_eq_false (by omega)
      have fin : Hid (Rg w.heap.size wr u3 (frl (fx V R) l) ∧ Below w.heap.size w wr) := by
        have h := hst.out
        rw [List.take_of_length_le (by rw [hnlen.out]; exact Nat.le_refl _)] at h
        exact ⟨h.1.low hb2.out.size, hb2.out.trans (h.2.mono hb2.out.size)⟩
      clear hst
      go_wp2_with fail
      go_ret
      exact ⟨_, rfl, fin.out.1, fin.out.2⟩

end Go.Proofs.YtegljhbjjdfhiaaDoor
