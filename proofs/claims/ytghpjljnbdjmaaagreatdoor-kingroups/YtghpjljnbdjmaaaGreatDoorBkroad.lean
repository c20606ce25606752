/- How far, round by round; the document's Far, walked. The document's Far, walked. The document's Road, walked. -/
import Derived.Test.YtghpjljnbdjmaaaGreatDoorRBr15
import Derived.Test.YtghpjljnbdjmaaaGreatDoorRegion
import Derived.Test.YtghpjljnbdjmaaaGreatDoorRoadsL15
namespace Go.Proofs.YtghpjljnbdjmaaaGreatDoor
open Go.RowKit
set_option linter.unusedVariables false

open Pq (fl fl_length fl_succ fl_get fl_congr)

def updZ (f : Nat → Int) (x : Nat) (z : Int) : Nat → Int := fun y => if y = x then z else f y
theorem updZ_same (f : Nat → Int) (x : Nat) (z : Int) : updZ f x z x = z := by simp [updZ]
theorem updZ_ne (f : Nat → Int) {x y : Nat} (z : Int) (h : y ≠ x) : updZ f x z y = f y := by simp [updZ, h]

/-- Whole numbers in a row. -/
def zcs (n : Nat) (f : Nat → Int) : List Value := (List.range n).map (fun i => .int .i64 (f i))
@[simp] theorem zcs_length (n : Nat) (f : Nat → Int) : (zcs n f).length = n := by simp [zcs]
theorem zcs_get {n : Nat} {f : Nat → Int} {j : Nat} (h : j < n) : (zcs n f)[j]? = some (.int .i64 (f j)) := by simp [zcs, h]
theorem zcs_set (n : Nat) (f : Nat → Int) (x : Nat) (z : Int) : (zcs n f).set x (.int .i64 z) = zcs n (updZ f x z) := by
  apply List.ext_getElem?
  intro j
  by_cases hj : j < n
  · rw [List.getElem?_set]
    by_cases e : x = j
    · subst e; rw [if_pos rfl, zcs_get hj, updZ_same]; simp [hj]
    · rw [if_neg e, zcs_get hj, zcs_get hj, updZ_ne _ _ (fun h => e h.symm)]
  · rw [List.getElem?_eq_none (by simp; omega), List.getElem?_eq_none (by simp; omega)]
theorem zcs_made (n : Nat) : (madeCells (Value.cells (.int .i64 0)) (n * 1)).toList = zcs n (fun _ => 0) := by
  rw [ncs_made]
  apply List.ext_getElem?
  intro j
  by_cases hj : j < n
  · rw [ncs_get hj, zcs_get hj]; rfl
  · rw [List.getElem?_eq_none (by simp; omega), List.getElem?_eq_none (by simp; omega)]
theorem zcs_congr {n : Nat} {f g : Nat → Int} (h : ∀ i, i < n → f i = g i) : zcs n f = zcs n g := by
  unfold zcs
  exact List.map_congr_left (fun i hi => by rw [h i (List.mem_range.1 hi)])

/-- What is known in round n: how far those are that were met; all up to n were; of those below v that are n away, and of v's darts ds, all neighbours were. -/
structure Fq (V : Nat) (R : Nat → List Nat) (o : Nat) (f : Nat → Int) (n v : Nat) (ds : List Nat) : Prop where
  neg : ∀ x, f x = -1 ∨ 0 ≤ f x
  dn : ∀ x, 0 ≤ f x → Dn V R (-1) o x (f x).toNat
  le : ∀ x, f x ≤ n + 1
  all : ∀ x k, Dn V R (-1) o x k → k ≤ n → f x = (k : Int)
  pr : ∀ u, u < v → f u = (n : Int) → ∀ d, d ∈ R u → 0 ≤ f (og V R (tw d))
  cur : ∀ d, d ∈ ds → 0 ≤ f (og V R (tw d))

section
variable {V E : Nat} {R : Nat → List Nat} {o : Nat} {f : Nat → Int} {n v : Nat} {ds : List Nat}

theorem Fq.start (o : Nat) : Fq V R o (updZ (fun _ => -1) o 0) 0 0 [] where
  neg := fun x => by unfold updZ; by_cases h : x = o <;> simp [h]
  dn := fun x h => by
    by_cases e : x = o
    · subst e; rw [updZ_same]; exact Dn.zero.2 rfl
    · rw [updZ_ne _ _ e] at h; omega
  le := fun x => by unfold updZ; by_cases h : x = o <;> simp [h]
  all := fun x k d hk => by
    obtain rfl : k = 0 := by omega
    obtain rfl := Dn.zero.1 d
    rw [updZ_same]; rfl
  pr := fun u hu => by omega
  cur := fun d hd => by simp at hd

theorem Fq.see (h : Fq V R o f n v ds) {d : Nat} (hs : 0 ≤ f (og V R (tw d))) : Fq V R o f n v (ds ++ [d]) := by
  refine { h with cur := fun x hx => ?_ }
  rcases List.mem_append.1 hx with q | q
  · exact h.cur x q
  · obtain rfl : x = d := by simpa using q
    exact hs

theorem Fq.mark (h : Fq V R o f n v ds) {d : Nat} (ht : Tn V E R) (hv : v < V) (hd : d ∈ R v) (hfv : f v = (n : Int)) (hs : f (og V R (tw d)) < 0) : Fq V R o (updZ f (og V R (tw d)) ((n : Int) + 1)) n v (ds ++ [d]) := by
  have hup : ∀ x, 0 ≤ f x → 0 ≤ updZ f (og V R (tw d)) ((n : Int) + 1) x := fun x hx => by
    by_cases e : x = og V R (tw d)
    · rw [e, updZ_same]; omega
    · rw [updZ_ne _ _ e]; exact hx
  have hdv : Dn V R (-1) o v n := by
    have := h.dn v (by omega)
    rw [hfv] at this
    simpa using this
  have hnew : Dn V R (-1) o (og V R (tw d)) (n + 1) := by
    refine ⟨⟨d, ⟨⟨v, hv, hd⟩, by omega⟩, by rw [og_at ht hv hd]; exact hdv.1, rfl⟩, fun m wm => Nat.not_lt.1 (fun c => ?_)⟩
    obtain ⟨k, dk⟩ := Kn.dn ⟨m, wm⟩
    have := dk.2 m wm
    have := h.all _ k dk (by omega)
    omega
  constructor
  · intro x
    by_cases e : x = og V R (tw d)
    · rw [e, updZ_same]; exact .inr (by omega)
    · rw [updZ_ne _ _ e]; exact h.neg x
  · intro x hx
    by_cases e : x = og V R (tw d)
    · rw [e, updZ_same]
      rw [show ((n : Int) + 1).toNat = n + 1 by omega]
      exact hnew
    · rw [updZ_ne _ _ e] at hx ⊢; exact h.dn x hx
  · intro x
    by_cases e : x = og V R (tw d)
    · rw [e, updZ_same]; omega
    · rw [updZ_ne _ _ e]; exact h.le x
  · intro x k dk hk
    have := h.all x k dk hk
    rw [updZ_ne _ _ (fun e => by rw [e] at this; omega)]
    exact this
  · intro u hu hfu d' hd'
    by_cases e : u = og V R (tw d)
    · rw [e, updZ_same] at hfu; omega
    · rw [updZ_ne _ _ e] at hfu
      exact hup _ (h.pr u hu hfu d' hd')
  · intro x hx
    rcases List.mem_append.1 hx with q | q
    · exact hup _ (h.cur x q)
    · obtain rfl : x = d := by simpa using q
      rw [updZ_same]; omega

theorem Fq.nextV (h : Fq V R o f n v ds) (hall : f v = (n : Int) → ∀ d, d ∈ R v → d ∈ ds) : Fq V R o f n (v + 1) [] := by
  refine { h with pr := fun u hu hfu d hd => ?_, cur := fun d hd => by simp at hd }
  rcases Nat.lt_or_ge u v with q | q
  · exact h.pr u q hfu d hd
  · obtain rfl : u = v := by omega
    exact h.cur d (hall hfu d hd)

theorem Fq.nextN (h : Fq V R o f n V ds) (ht : Tn V E R) (tt : Tw V E R) (ho : o < V) : Fq V R o f (n + 1) 0 [] := by
  refine ⟨h.neg, h.dn, fun x => by have := h.le x; omega, fun x k dk hk => ?_, fun u hu => by omega, fun d hd => by simp at hd⟩
  rcases Nat.lt_or_ge k (n + 1) with q | q
  · exact h.all x k dk (by omega)
  · obtain rfl : k = n + 1 := by omega
    obtain ⟨d, gd, hx, dy⟩ := dk.back ht tt
    have gt := gd.tw ht tt
    have hy := (og_is gt.1)
    have h1 := h.all _ n dy (Nat.le_refl _)
    have h2 := h.pr _ hy.1 h1 (tw d) hy.2
    rw [tw_tw, hx] at h2
    have := (h.dn x h2).uniq dk
    omega

/-- At the end all is known. -/
theorem Fq.fin (h : Fq V R o f V 0 ds) (ht : Tn V E R) (tt : Tw V E R) (ho : o < V) (x : Nat) : (f x = -1 ∧ ¬ Kn V R (-1) o x) ∨ ∃ k : Nat, f x = (k : Int) ∧ Dn V R (-1) o x k := by
  rcases h.neg x with q | q
  · refine .inl ⟨q, fun kn => ?_⟩
    obtain ⟨k, dk⟩ := kn.dn
    have := h.all x k dk (Nat.le_of_lt (dk.lt ht tt ho))
    omega
  · exact .inr ⟨(f x).toNat, by omega, h.dn x q⟩
end

end Go.Proofs.YtghpjljnbdjmaaaGreatDoor

namespace Go.Proofs.YtghpjljnbdjmaaaGreatDoor
open Go.RowKit
set_option linter.unusedVariables false

open Pq (fl fl_length fl_succ fl_get fl_congr)

/-- The document's turns, as they are read from a world on. -/
theorem nr_cells {w : World} {ad : Option Addr} {V cap : Nat} {R : Nat → List Nat} (h : NR w (.slice ad V cap) V R) (hV1 : 1 ≤ V) : ∃ b o, ad = some ⟨b, o, none⟩ ∧ ∀ u, u < V → ∃ xa xc, (∀ y, Below w.heap.size w y → y.cell? ⟨b, o + u, none⟩ = some (.slice xa (R u).length xc)) ∧ ∀ (j d : Nat), (R u)[j]? = some d → ∃ b' o', xa = some ⟨b', o', none⟩ ∧ ∀ y, Below w.heap.size w y → y.cell? ⟨b', o' + j, none⟩ = some (.int .i64 (d : Int)) := by
  obtain ⟨ad', cap', e1, _, _, h4⟩ := h
  obtain ⟨rfl, rfl⟩ : ad = ad' ∧ cap = cap' := by simpa using e1
  obtain ⟨b, o, _, rfl, _, _⟩ := h4 0 (by omega)
  refine ⟨b, o, rfl, fun u hu => ?_⟩
  obtain ⟨b2, o2, x, q1, q2, q3⟩ := h4 u hu
  simp only [Option.some.injEq, Addr.mk.injEq, and_true] at q1
  obtain ⟨rfl, rfl⟩ := q1
  obtain ⟨xa, m, xc, rfl, hm, _, _, hc⟩ := q3
  refine ⟨xa, xc, fun y hy => ?_, fun j d hj => ?_⟩
  · rw [hm]; exact (hy.cell (World.block_lt_of_cell? w _ q2)).trans q2
  · obtain ⟨b', o', p1, p2⟩ := hc j d hj
    exact ⟨b', o', p1, fun y hy => (hy.cell (World.block_lt_of_cell? w _ p2)).trans p2⟩

/-- Where Far stands. -/
structure Fw (w1 wr : World) (fb V : Nat) (f : Nat → Int) : Prop where
  row : wr.ownsRow w1.heap.size 3 1 (.slice (some ⟨fb, 0, none⟩) V V) V (zcs V f)
  bel : Below w1.heap.size w1 wr

theorem Fw.more {w1 wr wy : World} {fb V : Nat} {f : Nat → Int} (h : Fw w1 wr fb V f) (hb : Below wr.heap.size wr wy) : Fw w1 wy fb V f := ⟨ownsRow_below h.row hb, below_thru h.bel hb⟩
theorem Fw.at_ {w1 wr : World} {fb V : Nat} {f : Nat → Int} (h : Fw w1 wr fb V f) {x : Nat} (hx : x < V) : wr.cell? ⟨fb, x, none⟩ = some (.int .i64 (f x)) := by rw [h.row.cellAt x (by omega)]; exact zcs_get hx
theorem Fw.put {w1 wr : World} {fb V : Nat} {f : Nat → Int} (h : Fw w1 wr fb V f) (x : Nat) (z : Int) : Fw w1 (wr.setCell ⟨fb, x, none⟩ (.int .i64 z)) fb V (updZ f x z) := by
  obtain ⟨s1, s2⟩ := h.row.stored x (.int .i64 z)
  rw [zcs_set] at s1
  exact ⟨s1, below_row h.bel (Nat.le_refl _) h.row (Nat.le_refl _) s2⟩

set_option maxRecDepth 100000 in
set_option maxHeartbeats 8000000 in
theorem rfar_ok (tv : Value) (E V o : Nat) (R : Nat → List Nat) (w : World) (hv : RT w tv E V R) (ht : Tn V E R) (hw : Tw V E R) (ho : o < V) (hE : E ≤ 1000) (hV1 : 1 ≤ V) (hV : V ≤ 1000) (hl : ∀ u, u < V → (R u).length ≤ 1000) :
    Calls Tryz.prog 49 #[tv, .int .i64 (o : Int)] w fun x w' => ∃ fb f, x = .returned (.slice (some ⟨fb, 0, none⟩) V V) ∧ w'.ownsRow w.heap.size 3 1 (.slice (some ⟨fb, 0, none⟩) V V) V (zcs V f) ∧ (∀ x, (f x = -1 ∧ ¬ Kn V R (-1) o x) ∨ ∃ k : Nat, f x = (k : Int) ∧ Dn V R (-1) o x k) ∧ Below w.heap.size w w' := by
  obtain ⟨i0, hif, hz0, hz1, hz2⟩ := info_parts infoInt
  have hen := fun (d : Nat) (hd : In V R d) (y : World) (hy : Below w.heap.size w y) => rend_ok tv E V d R y (hv.below hy) ht hw hd hE hV hl
  obtain ⟨lv, rfl, hr⟩ := hv
  obtain ⟨ad, cap, rfl⟩ : ∃ ad cap, lv = .slice ad V cap := by
    obtain ⟨x1, x2, h1, _⟩ := hr
    exact ⟨x1, x2, h1⟩
  obtain ⟨c0, c1⟩ := two_new w (.int .i64 (E : Int)) (.slice ad V cap) 27
  have hb := balloc w (.cells #[.int .i64 (E : Int), .slice ad V cap] 27)
  have hr1 := hr.below hb
  obtain ⟨w1, hw1⟩ : ∃ w1, w.alloc (.cells #[.int .i64 (E : Int), .slice ad V cap] 27) = w1 := ⟨_, rfl⟩
  rw [hw1] at c0 c1 hb hr1
  obtain ⟨lb_, lo_, rfl, hrow⟩ := nr_cells hr1 hV1
  have hcl := hid (fun (y : World) (hy : Below w1.heap.size w1 y) => And.intro ((hy.cell (World.block_lt_of_cell? w1 _ c0)).trans c0) ((hy.cell (World.block_lt_of_cell? w1 _ c1)).trans c1))
  have hog : Hid (∀ u d, u < V → d ∈ R u → In V R d ∧ og V R (tw d) < V) := hid fun u d hu hd => ⟨⟨u, hu, hd⟩, (og_is ((show In V R d from ⟨u, hu, hd⟩).tw ht hw)).1⟩
  have hmark : Hid (∀ f n v ds d, Fq V R o f n v ds → v < V → d ∈ R v → f v = (n : Int) → f (og V R (tw d)) < 0 → Fq V R o (updZ f (og V R (tw d)) ((n : Int) + 1)) n v (ds ++ [d])) := hid fun f n v ds d h1 h2 h3 h4 h5 => h1.mark ht h2 h3 h4 h5
  have hnextN : Hid (∀ f n ds, Fq V R o f n V ds → Fq V R o f (n + 1) 0 []) := hid fun f n ds h => h.nextN ht hw ho
  have hfin : Hid (∀ f ds, Fq V R o f V 0 ds → ∀ x, (f x = -1 ∧ ¬ Kn V R (-1) o x) ∨ ∃ k : Nat, f x = (k : Int) ∧ Dn V R (-1) o x k) := hid fun f ds h x => h.fin ht hw ho x
  have hq0 : Hid (Fq V R o (updZ (fun _ => -1) o 0) 0 0 []) := hid (Fq.start o)
  have hsz := hb.size
  replace hen := hid hen
  replace hrow := hid hrow
  replace hw1 := hid hw1
  replace hb := hid hb
  have hlen := hid hl
  clear hr hr1 ht hw hl
  go_enter Tryz.func49, Tryz.ntmps49
  go_upto_region 1 with fail
  rw [hw1.out]
  clear hw1
  go_wp2_with (at_make; refine wpList_make_full _ rfl (.tmp 13) (.tmp 13) 30 rfl w1.heap.size 3 i0 (.int .i64 0) 1 Tryz.underlying30 hif hz0 hz1 .i64 .i64 _ _ V rfl rfl rfl rfl (by rw [hz2]; omega) (by unfold maxLen; omega) (Nat.le_refl _) ?_; intro w2 hown hgrow)
  have hst : Hid (Fw w1 w2 w1.heap.size V (fun i => if i < 0 then -1 else 0)) := by
    rw [zcs_made] at hown
    rw [show (fun i : Nat => if i < 0 then (-1 : Int) else 0) = (fun _ => 0) from funext fun i => if_neg (Nat.not_lt_zero i)]
    exact hid ⟨hown, (Below.refl _ _).grown hgrow (Nat.le_refl _) (by simp)⟩
  clear hown hgrow c0 c1
  obtain ⟨fb, hfb⟩ : ∃ fb, w1.heap.size = fb := ⟨_, rfl⟩
  have hst : Hid (Fw w1 w2 fb V (fun i => if i < 0 then -1 else 0)) := by rw [← hfb]; exact hst
  rw [hfb]
  clear hfb
  go_wp2_with fail
  go_loopw [6] (fun u wr => ∃ j : Nat, j ≤ V ∧ u = .int .i64 (j : Int) ∧ Hid (Fw w1 wr fb V (fun i => if i < j then -1 else 0))) (fun u _ => V - (intOf u).toNat)
  case atStart => exact ⟨0, by omega, by go_num, hst⟩
  case round =>
    obtain ⟨j, hj, rfl, hs⟩ := hrel
    clear hst
    rcases Nat.lt_or_ge j V with hlt | hge
    · have cj := hs.out.at_ hlt
      have fj := hs.out.row.frozenAt j
      have hnew : Hid (Fw w1 (wr.setCell ⟨fb, j, none⟩ (.int .i64 (-1))) fb V (fun i => if i < j + 1 then -1 else 0)) := by
        have h1 := hs.out.put j (-1)
        refine hid ⟨?_, h1.bel⟩
        rw [zcs_congr (g := updZ (fun i => if i < j then -1 else 0) j (-1)) (fun i _ => by
          unfold updZ
          by_cases e1 : i = j
          · rw [if_pos e1, if_pos (by omega)]
          · rw [if_neg e1]
            show _ = (if i < j then (-1 : Int) else 0)
            by_cases e2 : i < j
            · rw [if_pos e2, if_pos (by omega)]
            · rw [if_neg e2, if_neg (by omega)])]
        exact h1.row
      generalize (if j < j then (-1 : Int) else 0) = old at cj
      have j1 : (0 : Int) ≤ (j : Int) := by omega
      have j2 : (j : Int) < (V : Int) := by omega
      clear hs
      go_wp2_with fail
      go_roundw
      case rel => exact ⟨j + 1, by omega, by go_num, hnew⟩
      case measure => simp [intOf]; omega
    · have hjV : Hid (j = V) := hid (by omega)
      have hs1 : Hid (Fw w1 wr fb V (fun _ => -1)) := by
        have := hs.out
        refine hid ⟨?_, this.bel⟩
        rw [zcs_congr (g := fun i => if i < j then -1 else 0) (fun i hi => (if_pos (by omega)).symm)]
        exact this.row
      have co := hs1.out.at_ ho
      have fo := hs1.out.row.frozenAt o
      have hst2 := hid (hs1.out.put o 0)
      have j1 : (0 : Int) ≤ (o : Int) := by omega
      have j2 : (o : Int) < (V : Int) := by omega
      have t1 : decide ((j : Int) < (V : Int)) = false := decide_eq_false (by omega)
      have t2 : decide (j < V) = false := decide_eq_false (by omega)
      clear hs hs1
      go_upto_region 7 with fail
      generalize wr.setCell ⟨fb, o, none⟩ (.int .i64 0) = w3 at hst2 ⊢
      clear co fo
      go_wp2_with fail
      go_loopw [7, 8, 9, 10] (fun u _ _ _ wr => ∃ (n : Nat) (f : Nat → Int), n ≤ V ∧ u = .int .i64 (n : Int) ∧ Hid (Fw w1 wr fb V f ∧ Fq V R o f n 0 [])) (fun u _ _ _ _ => V - (intOf u).toNat)
      case atStart => exact ⟨0, _, by omega, by go_num, hid ⟨hst2.out, hq0.out⟩⟩
      case round =>
        obtain ⟨n, f, hn, rfl, hs⟩ := hrel
        clear hst2
        rcases Nat.lt_or_ge n V with hlt | hge
        · have k1 : decide ((n : Int) < (V : Int)) = true := decide_eq_true (by omega)
          clear t1 t2
          go_wp2_with fail
          go_loopw [8, 9, 10] (fun u _ _ wr => ∃ (v : Nat) (f : Nat → Int), v ≤ V ∧ u = .int .i64 (v : Int) ∧ Hid (Fw w1 wr fb V f ∧ Fq V R o f n v [])) (fun u _ _ _ => V - (intOf u).toNat)
          case atStart => exact ⟨0, f, by omega, by go_num, hs⟩
          case round =>
            obtain ⟨v, f, hv, rfl, hs3⟩ := hrel
            clear hs
            rcases Nat.lt_or_ge v V with hvV | hge
            · have cv := hs3.out.1.at_ hvV
              have i1 : (0 : Int) ≤ (v : Int) := by omega
              have i2 : (v : Int) < (V : Int) := by omega
              by_cases hfv : f v = (n : Int)
              · rw [hfv] at cv
                have t3 : ((n : Int) != (n : Int)) = false := by simp
                obtain ⟨xa, xc, hxl, hxd⟩ := hrow.out v hvV
                obtain ⟨m, hm⟩ : ∃ m, (R v).length = m := ⟨_, rfl⟩
                have hm1 : m ≤ 1000 := by rw [← hm]; exact hlen.out v hvV
                rw [hm] at hxl
                have hst4 : Hid (Fw w1 wr fb V f ∧ Fq V R o f n v ((R v).take 0) ∧ f v = (n : Int)) := hid ⟨hs3.out.1, by rw [List.take_zero]; exact hs3.out.2, hfv⟩
                replace hxl := hid hxl
                replace hxd := hid hxd
                replace hm := hid hm
                clear hs3 hfv
                go_wp2_with fail
                go_loopw [9, 10] (fun u _ wr => ∃ (i : Nat) (f : Nat → Int), i ≤ m ∧ u = .int .i64 (i : Int) ∧ Hid (Fw w1 wr fb V f ∧ Fq V R o f n v ((R v).take i) ∧ f v = (n : Int))) (fun u _ _ => m - (intOf u).toNat)
                case atStart => exact ⟨0, f, by omega, by go_num, hst4⟩
                case round =>
                  obtain ⟨i, f, hi, rfl, hs5⟩ := hrel
                  clear hst4 cv
                  have hcw := hcl.out wr hs5.out.1.bel
                  obtain ⟨c0, c1⟩ := hcw
                  have cL := hxl.out wr hs5.out.1.bel
                  rcases Nat.lt_or_ge i m with him | hge
                  · obtain ⟨d, hd⟩ : ∃ d, (R v)[i]? = some d := ⟨_, List.getElem?_eq_getElem (by rw [hm.out]; exact him)⟩
                    have hdm := List.mem_of_getElem? hd
                    obtain ⟨b6, o6, rfl, hcd⟩ := hxd.out i d hd
                    obtain ⟨hdi, hyV⟩ := hog.out v d hvV hdm
                    have hcell : Hid (∀ y, Below wr.heap.size wr y → y.cell? ⟨w.heap.size, 0, none⟩ = some (.int .i64 (E : Int)) ∧ y.cell? ⟨w.heap.size, 1, none⟩ = some (.slice (some ⟨lb_, lo_, none⟩) V cap) ∧ y.cell? ⟨lb_, lo_ + v, none⟩ = some (.slice (some ⟨b6, o6, none⟩) m xc) ∧ y.cell? ⟨b6, o6 + i, none⟩ = some (.int .i64 (d : Int))) := hid fun y hy => by
                      have hby := below_thru hs5.out.1.bel hy
                      exact ⟨(hcl.out y hby).1, (hcl.out y hby).2, hxl.out y hby, hcd y hby⟩
                    have hcall := hid (fun y (hy : Below wr.heap.size wr y) => hen.out d hdi y (below_thru hb.out (below_thru hs5.out.1.bel hy)))
                    have htk : Hid ((R v).take (i + 1) = (R v).take i ++ [d]) := hid (ntake hd)
                    have hsee := hid (fun q => hs5.out.2.1.see (d := d) q)
                    have hmk := hid (fun q => hmark.out f n v _ d hs5.out.2.1 hvV hdm hs5.out.2.2 q)
                    have hfw := hid hs5.out.1
                    have hfn := hid hs5.out.2.2
                    have hbd := hid hs5.out.2.1.neg
                    have j3 : (0 : Int) ≤ (i : Int) := by omega
                    have j4 : (i : Int) < (m : Int) := by omega
                    obtain ⟨y, hy⟩ : ∃ y, og V R (tw d) = y := ⟨_, rfl⟩
                    rw [hy] at hcall hyV hsee hmk
                    rw [← htk.out] at hsee hmk
                    replace hy := hid hy
                    clear hs5 hd hdm hdi hcd htk
                    go_wp2_with fail
                    go_region_held3 (fun z => z.cell? ⟨w.heap.size, 0, none⟩ = some (.int .i64 (E : Int)) ∧ z.cell? ⟨w.heap.size, 1, none⟩ = some (.slice (some ⟨lb_, lo_, none⟩) V cap) ∧ z.cell? ⟨lb_, lo_ + v, none⟩ = some (.slice (some ⟨b6, o6, none⟩) m xc) ∧ z.cell? ⟨b6, o6 + i, none⟩ = some (.int .i64 (d : Int))) (first | with_reducible exact hcell.out _ bS.out | with_reducible exact hcell.out _ (Below.refl _ _).drew | with_reducible exact hcell.out _ (Below.refl _ _) | go_keep) ((go_at_call 50; refine (hcall.out _ (by first | exact (Below.refl _ _).drew | exact Below.refl _ _)).mono ?_; rintro q ws ⟨rfl, bs1⟩; have bS := hid (below_thru (by first | exact (Below.refl wr.heap.size wr).drew | exact Below.refl wr.heap.size wr) bs1); clear bs1))
                    have hfs := hid (hfw.out.more bS.out)
                    have cy := hfs.out.at_ hyV
                    have fy := hfs.out.row.frozenAt y
                    have j5 : (0 : Int) ≤ (y : Int) := by omega
                    have j6 : (y : Int) < (V : Int) := by omega
                    clear c0 c1 cL hcell hcall bS hfw
                    rcases hbd.out y with hneg | hpos
                    · rw [hneg] at cy
                      have hnew0 := hfs.out.put y ((n : Int) + 1)
                      have hvy : v ≠ y := fun c => by have h1 := hfn.out; rw [c, hneg] at h1; omega
                      have hnew := hid (And.intro hnew0 (And.intro (hmk.out (by omega)) (show updZ f y ((n : Int) + 1) v = (n : Int) by rw [updZ_ne _ _ hvy]; exact hfn.out)))
                      clear hneg hnew0 hsee hmk hfn hbd hvy hfs
                      go_wp2_with fail
                      go_roundw
                      case rel => exact ⟨i + 1, _, by omega, by go_num, hnew⟩
                      case measure => simp [intOf]; omega
                    · have t5 : decide (f y < 0) = false := decide_eq_false (by omega)
                      have hnew := hid (And.intro hfs.out (And.intro (hsee.out hpos) hfn.out))
                      generalize f y = Fy at cy t5
                      clear hpos hsee hmk hfn hbd hfs
                      go_wp2_with fail
                      go_roundw
                      case rel => exact ⟨i + 1, _, by omega, by go_num, hnew⟩
                      case measure => simp [intOf]; omega
                  · obtain rfl : i = m := by omega
                    have hq5 := hs5.out.2.1
                    rw [List.take_of_length_le (by rw [hm.out]; exact Nat.le_refl _)] at hq5
                    have hnew := hid (And.intro hs5.out.1 (hq5.nextV (fun _ d hd => hd)))
                    clear hs5 hq5
                    go_wp2_with fail
                    go_roundw
                    case rel => exact ⟨v + 1, f, by omega, by go_num, hnew⟩
                    case measure => simp [intOf]; omega
              · have t3 : (f v != (n : Int)) = true := by simp [hfv]
                have hnew := hid (And.intro hs3.out.1 (hs3.out.2.nextV (fun q => absurd q hfv)))
                generalize f v = Fv at cv t3
                clear hs3 hfv
                go_wp2_with fail
                go_roundw
                case rel => exact ⟨v + 1, f, by omega, by go_num, hnew⟩
                case measure => simp [intOf]; omega
            · obtain rfl : v = V := by omega
              have hnew := hid (And.intro hs3.out.1 (hnextN.out f n [] hs3.out.2))
              clear hs3
              go_wp2_with fail
              go_roundw
              case rel => exact ⟨n + 1, f, by omega, by go_num, hnew⟩
              case measure => simp [intOf]; omega
        · obtain rfl : n = V := by omega
          have fin := hid (And.intro (own_low hs.out.1.row hsz) (And.intro (hfin.out f [] hs.out.2) (below_thru hb.out hs.out.1.bel)))
          clear hs
          go_wp2_with fail
          go_ret
          exact ⟨fb, f, rfl, fin.out.1, fin.out.2.1, fin.out.2.2⟩

end Go.Proofs.YtghpjljnbdjmaaaGreatDoor

namespace Go.Proofs.YtghpjljnbdjmaaaGreatDoor
open Go.RowKit
set_option linter.unusedVariables false

open Pq (fl fl_length fl_succ fl_get fl_congr)

/-- The least of the darts that lead to where it is m. -/
def Atq (f : Nat → Int) (h : Nat → Nat) (m : Nat) (ds : List Nat) (z : Int) : Prop :=
  (z = -1 ∧ ∀ d, d ∈ ds → f (h d) ≠ (m : Int)) ∨ ∃ k : Nat, z = (k : Int) ∧ k ∈ ds ∧ f (h k) = (m : Int) ∧ ∀ d, d ∈ ds → f (h d) = (m : Int) → k ≤ d

theorem Atq.no {f : Nat → Int} {h : Nat → Nat} {m : Nat} {ds : List Nat} {z : Int} (q : Atq f h m ds z) {d : Nat} (hd : f (h d) ≠ (m : Int)) : Atq f h m (ds ++ [d]) z := by
  rcases q with ⟨q1, q2⟩ | ⟨k, q1, q2, q3, q4⟩
  · refine .inl ⟨q1, fun x hx => ?_⟩
    rcases List.mem_append.1 hx with p | p
    · exact q2 x p
    · rw [show x = d by simpa using p]; exact hd
  · refine .inr ⟨k, q1, List.mem_append_left _ q2, q3, fun x hx hfx => ?_⟩
    rcases List.mem_append.1 hx with p | p
    · exact q4 x p hfx
    · rw [show x = d by simpa using p] at hfx; exact absurd hfx hd

theorem Atq.first {f : Nat → Int} {h : Nat → Nat} {m : Nat} {ds : List Nat} (q : Atq f h m ds (-1)) {d : Nat} (hd : f (h d) = (m : Int)) : Atq f h m (ds ++ [d]) (d : Int) := by
  rcases q with ⟨q1, q2⟩ | ⟨k, q1, _⟩
  · refine .inr ⟨d, rfl, List.mem_append_right _ (by simp), hd, fun x hx hfx => ?_⟩
    rcases List.mem_append.1 hx with p | p
    · exact absurd hfx (q2 x p)
    · rw [show x = d by simpa using p]; exact Nat.le_refl _
  · omega

theorem Atq.less {f : Nat → Int} {h : Nat → Nat} {m : Nat} {ds : List Nat} {k : Nat} (q : Atq f h m ds (k : Int)) {d : Nat} (hd : f (h d) = (m : Int)) (hl : d < k) : Atq f h m (ds ++ [d]) (d : Int) := by
  rcases q with ⟨q1, q2⟩ | ⟨k', q1, q2, q3, q4⟩
  · omega
  · refine .inr ⟨d, rfl, List.mem_append_right _ (by simp), hd, fun x hx hfx => ?_⟩
    rcases List.mem_append.1 hx with p | p
    · have := q4 x p hfx; omega
    · rw [show x = d by simpa using p]; exact Nat.le_refl _

theorem Atq.more {f : Nat → Int} {h : Nat → Nat} {m : Nat} {ds : List Nat} {k : Nat} (q : Atq f h m ds (k : Int)) {d : Nat} (hl : ¬ d < k) : Atq f h m (ds ++ [d]) (k : Int) := by
  rcases q with ⟨q1, q2⟩ | ⟨k', q1, q2, q3, q4⟩
  · omega
  · refine .inr ⟨k', q1, List.mem_append_left _ q2, q3, fun x hx hfx => ?_⟩
    rcases List.mem_append.1 hx with p | p
    · exact q4 x p hfx
    · rw [show x = d by simpa using p]; omega

set_option maxRecDepth 100000 in
set_option maxHeartbeats 8000000 in
theorem rroad15_ok (tv : Value) (E V a b : Nat) (R : Nat → List Nat) (w : World) (hv : RT w tv E V R) (ht : Tn V E R) (hw : Tw V E R) (ha : a < V) (hb' : b < V) (hE : E ≤ 1000) (hV1 : 1 ≤ V) (hV : V ≤ 1000) (hl : ∀ u, u < V → (R u).length ≤ 1000) :
    Calls Tryz.prog 16 #[tv, .int .i64 (a : Int), .int .i64 (b : Int)] w fun x w' => Below w.heap.size w w' ∧ ((¬ Kn V R (-1) b a ∧ x = .returned (.tuple #[.slice none 0 0, .bool false])) ∨ ∃ u l n, x = .returned (.tuple #[u, .bool true]) ∧ Rw w.heap.size w' u l ∧ Dn V R (-1) b a n ∧ Rd V R b n a l) := by
  obtain ⟨i0, hif, hz0, hz1, hz2⟩ := info_parts infoInt
  have hen := fun (d : Nat) (hd : In V R d) (y : World) (hy : Below w.heap.size w y) => rend_ok tv E V d R y (hv.below hy) ht hw hd hE hV hl
  have hfa := fun (y : World) (hy : Below w.heap.size w y) => rfar_ok tv E V b R y (hv.below hy) ht hw hb' hE hV1 hV hl
  obtain ⟨lv, rfl, hr⟩ := hv
  obtain ⟨ad, cap, rfl⟩ : ∃ ad cap, lv = .slice ad V cap := by
    obtain ⟨x1, x2, h1, _⟩ := hr
    exact ⟨x1, x2, h1⟩
  obtain ⟨c0, c1⟩ := two_new w (.int .i64 (E : Int)) (.slice ad V cap) 27
  have hb := balloc w (.cells #[.int .i64 (E : Int), .slice ad V cap] 27)
  have hr1 := hr.below hb
  obtain ⟨w1, hw1⟩ : ∃ w1, w.alloc (.cells #[.int .i64 (E : Int), .slice ad V cap] 27) = w1 := ⟨_, rfl⟩
  rw [hw1] at c0 c1 hb hr1
  obtain ⟨lb_, lo_, rfl, hrow⟩ := nr_cells hr1 hV1
  have hcl := hid (fun (y : World) (hy : Below w1.heap.size w1 y) => And.intro ((hy.cell (World.block_lt_of_cell? w1 _ c0)).trans c0) ((hy.cell (World.block_lt_of_cell? w1 _ c1)).trans c1))
  have hog : Hid (∀ u d, u < V → d ∈ R u → In V R d ∧ og V R (tw d) < V) := hid fun u d hu hd => ⟨⟨u, hu, hd⟩, (og_is ((show In V R d from ⟨u, hu, hd⟩).tw ht hw)).1⟩
  have hback : Hid (∀ v m, v < V → Dn V R (-1) b v (m + 1) → ∃ d, d ∈ R v ∧ Dn V R (-1) b (og V R (tw d)) m) := hid fun v m hv2 dn => by
    obtain ⟨d, g1, o1, d1⟩ := dn.back ht hw
    have := (og_is g1.1).2
    rw [o1] at this
    exact ⟨d, this, d1⟩
  have hdlt : Hid (∀ v m, Dn V R (-1) b v m → m < V) := hid fun v m d => d.lt ht hw hb'
  have hdl : Hid (∀ u d, u < V → d ∈ R u → d < 2000) := hid fun u d hu hd => by
    have := (show In V R d from ⟨u, hu, hd⟩).low ht
    omega
  replace hen := hid hen
  replace hfa := hid hfa
  replace hrow := hid hrow
  replace hw1 := hid hw1
  replace hb := hid hb
  have hlen := hid hl
  clear hr hr1 ht hw hl
  go_enter Tryz.func16, Tryz.ntmps16
  go_upto_region 1 with fail
  rw [hw1.out]
  clear hw1
  go_wp2_with fail
  refine (hfa.out w1 hb.out).mono ?_
  rintro x w3 ⟨fb, f, rfl, hfr, hf, b3⟩
  have hfc : Hid (∀ x, x < V → ∀ y, Below w3.heap.size w3 y → y.cell? ⟨fb, x, none⟩ = some (.int .i64 (f x))) := hid fun x hx y hy => by
    have := (ownsRow_below hfr hy).cellAt x (by omega)
    rw [this]; exact zcs_get hx
  have ca := hfc.out a ha w3 (Below.refl _ _)
  have j1 : (0 : Int) ≤ (a : Int) := by omega
  have j2 : (a : Int) < (V : Int) := by omega
  have hb3 := hid (below_thru hb.out b3)
  replace b3 := hid b3
  have hfd : Hid (∀ x m : Nat, f x = (m : Int) ↔ Dn V R (-1) b x m) := hid fun x m => by
    rcases hf x with ⟨q1, q2⟩ | ⟨k, q1, q2⟩
    · exact ⟨fun q => by omega, fun q => absurd ⟨m, q.1⟩ q2⟩
    · constructor
      · intro q
        obtain rfl : k = m := by omega
        exact q2
      · intro q
        rw [q1, q2.uniq q]
  clear c0 c1 hfa hfr
  rcases hf a with ⟨q1, q2⟩ | ⟨n, q1, q2⟩
  · rw [q1] at ca
    replace q2 := hid q2
    clear hf q1 hfd
    go_wp2_with fail
    go_ret2
    exact ⟨hb3.out, .inl ⟨q2.out, rfl⟩⟩
  · rw [q1] at ca
    have t1 : decide ((n : Int) < 0) = false := decide_eq_false (by omega)
    have hnV := hdlt.out a n q2
    have hst0 : Hid (Rw w3.heap.size w3 (.slice none 0 0) [] ∧ Dn V R (-1) b a n ∧ a < V ∧ (∀ r, Rd V R b n a r → Rd V R b n a ([] ++ r)) ∧ ([] : List Nat).length + n = n ∧ Below w3.heap.size w3 w3) := hid ⟨World.ownsRow_nil _ _ _ _, q2, ha, fun r q => q, by simp, Below.refl _ _⟩
    have hdn := hid q2
    clear hf q1 q2
    go_wp2_with fail
    go_loopw [1, 9, 10, 11, 12] (fun sv ov _ _ _ wr => ∃ (v m : Nat) (out : List Nat), sv = .int .i64 (v : Int) ∧ Hid (Rw w3.heap.size wr ov out ∧ Dn V R (-1) b v m ∧ v < V ∧ (∀ r, Rd V R b m v r → Rd V R b n a (out ++ r)) ∧ out.length + m = n ∧ Below w3.heap.size w3 wr)) (fun _ ov _ _ _ _ => n - sln ov)
    case atStart => exact ⟨a, n, [], rfl, hst0⟩
    case round =>
      obtain ⟨v, m, out, rfl, hst⟩ := hrel
      clear hst0 ca t1
      obtain ⟨hro, hdv, hvV, hrd, hlo, hbw⟩ := hst.out
      have cv := hfc.out v hvV wr hbw
      rw [(hfd.out v m).2 hdv] at cv
      have i1 : (0 : Int) ≤ (v : Int) := by omega
      have i2 : (v : Int) < (V : Int) := by omega
      cases m with
      | zero =>
        have hvb : v = b := (Dn.zero.1 hdv).symm
        have hfin := hrd [] ⟨hvb, rfl⟩
        rw [List.append_nil] at hfin
        have fin := hid (And.intro (below_thru hb3.out hbw) (And.intro (hro.low hb3.out.size) hfin))
        clear hst hro hdv hrd hlo hbw hvb hfin
        have t1 : decide (((0 : Nat) : Int) > 0) = false := by decide
        go_wp2_with fail
        go_ret2
        exact ⟨fin.out.1, .inr ⟨_, out, n, rfl, fin.out.2.1, hdn.out, fin.out.2.2⟩⟩
      | succ m =>
        obtain ⟨M, hM⟩ : ∃ M, m + 1 = M := ⟨_, rfl⟩
        rw [hM] at cv
        have t1 : decide ((M : Int) > 0) = true := decide_eq_true (by omega)
        have t1' : decide ((0 : Int) < (M : Int)) = true := decide_eq_true (by omega)
        have t1'' : decide (0 < M) = true := decide_eq_true (by omega)
        have hMw : IntKind.i64.wrap ((M : Int) - 1) = (m : Int) := by rw [IntKind.wrap_i64]; have := hdlt.out v (m + 1) hdv; omega
        obtain ⟨xa, xc, hxl, hxd⟩ := hrow.out v hvV
        obtain ⟨K, hK⟩ : ∃ K, (R v).length = K := ⟨_, rfl⟩
        have hK1 : K ≤ 1000 := by rw [← hK]; exact hlen.out v hvV
        rw [hK] at hxl
        have hs1 : Hid (Atq f (fun d => og V R (tw d)) m ((R v).take 0) (-1) ∧ Below wr.heap.size wr wr) := hid ⟨.inl ⟨rfl, fun d hd => by simp at hd⟩, Below.refl _ _⟩
        have hro' := hid hro
        have hbw' := hid hbw
        have hrd' := hid hrd
        have hlo' := hid hlo
        have hdv' := hid hdv
        replace hxl := hid hxl
        replace hxd := hid hxd
        replace hK := hid hK
        replace hM := hid hM
        have hln := hid (own_sln hro)
        clear hst hro hdv hrd hlo hbw
        go_wp2_with fail
        go_loopw [10, 11, 12] (fun zv u _ wy => ∃ (i : Nat) (z : Int), i ≤ K ∧ u = .int .i64 (i : Int) ∧ zv = .int .i64 z ∧ Hid (Atq f (fun d => og V R (tw d)) m ((R v).take i) z ∧ Below wr.heap.size wr wy)) (fun _ u _ _ => K - (intOf u).toNat)
        case atStart => exact ⟨0, -1, by omega, by go_num, by go_num, hs1⟩
        case round =>
          obtain ⟨i, z, hi, rfl, rfl, hs⟩ := hrel
          clear hs1
          have hbq := below_thru hbw'.out hs.out.2
          obtain ⟨c0, c1⟩ := hcl.out wr (below_thru b3.out hbq)
          have cL := hxl.out wr (below_thru b3.out hbq)
          rcases Nat.lt_or_ge i K with hiK | hge
          · obtain ⟨d, hd⟩ : ∃ d, (R v)[i]? = some d := ⟨_, List.getElem?_eq_getElem (by rw [hK.out]; exact hiK)⟩
            have hdm := List.mem_of_getElem? hd
            obtain ⟨b6, o6, rfl, hcd⟩ := hxd.out i d hd
            have cd := hcd wr (below_thru b3.out hbq)
            obtain ⟨hdi, hyV⟩ := hog.out v d hvV hdm
            have hd2 := hdl.out v d hvV hdm
            have htk : Hid ((R v).take (i + 1) = (R v).take i ++ [d]) := hid (ntake hd)
            obtain ⟨y, hy⟩ : ∃ y, og V R (tw d) = y := ⟨_, rfl⟩
            have hcell : Hid (∀ q, Below wr.heap.size wr q → q.cell? ⟨w.heap.size, 0, none⟩ = some (.int .i64 (E : Int)) ∧ q.cell? ⟨w.heap.size, 1, none⟩ = some (.slice (some ⟨lb_, lo_, none⟩) V cap) ∧ q.cell? ⟨fb, v, none⟩ = some (.int .i64 (M : Int)) ∧ q.cell? ⟨fb, y, none⟩ = some (.int .i64 (f y))) := hid fun q hq => by
              have hby := below_thru hbq hq
              refine ⟨(hcl.out q (below_thru b3.out hby)).1, (hcl.out q (below_thru b3.out hby)).2, ?_, hfc.out y (by rw [← hy]; exact hyV) q hby⟩
              rw [hfc.out v hvV q hby, (hfd.out v (m + 1)).2 hdv'.out, hM.out]
            have hcall := hid (fun q (hq : Below wr.heap.size wr q) => hen.out d hdi q (below_thru hb3.out (below_thru hbq hq)))
            have hse := hid hs.out.1
            have hbs := hid hs.out.2
            rw [hy] at hcall hyV
            have j3 : (0 : Int) ≤ (i : Int) := by omega
            have j4 : (i : Int) < (K : Int) := by omega
            have j5 : (0 : Int) ≤ (y : Int) := by omega
            have j6 : (y : Int) < (V : Int) := by omega
            obtain ⟨x0, x1, x2, x3⟩ := hcell.out wr (Below.refl _ _)
            have hfy := hid hy
            clear hs hd hdm hdi hcd hbq
            by_cases hF : f y = (m : Int)
            · rw [hF] at x3 hcell
              have d0 : ((m : Int) == (m : Int)) = true := by simp
              have hFd : Hid (f ((fun d => og V R (tw d)) d) = (m : Int)) := by show f (og V R (tw d)) = _; rw [hfy.out]; exact hid hF
              clear hF hy
              have hz : z = -1 ∨ ∃ k : Nat, z = (k : Int) := by
                rcases hse.out with ⟨q, _⟩ | ⟨k, q, _⟩
                · exact .inl q
                · exact .inr ⟨k, q⟩
              rcases hz with rfl | ⟨k, rfl⟩
              · have hnx : Hid (Atq f (fun d => og V R (tw d)) m ((R v).take (i + 1)) (d : Int)) := by rw [htk.out]; exact hid (hse.out.first hFd.out)
                have d1 : decide ((-1 : Int) < 0) = true := by decide
                clear hse
                go_wp2_with fail
                refine wp_region_noPanic ?_
                refine wp_region_held_drew (S := fun q => q.cell? ⟨w.heap.size, 0, none⟩ = some (.int .i64 (E : Int)) ∧ q.cell? ⟨w.heap.size, 1, none⟩ = some (.slice (some ⟨lb_, lo_, none⟩) V cap) ∧ q.cell? ⟨fb, v, none⟩ = some (.int .i64 (M : Int)) ∧ q.cell? ⟨fb, y, none⟩ = some (.int .i64 (m : Int))) (by kernel_rfl) ⟨x0, x1, x2, x3⟩ (fun hHeld => ?_)
                refine takeH (i := 0) (v := ?_) (a' := ?_) ({ dst := some 44, op := Op.move (Operand.tmp 8), type := 30, pos := "ref.go:54", after := #[], guard := none }) rfl (by kernel_rfl) (by kernel_rfl) (by kernel_rfl) (fun _ _ _ h => h) (by rfl) ?_ (by assumption) ?_ ?_
                rotate_left 2
                · (intro w' hSw; obtain ⟨s0, s1, s2, s3⟩ := hSw; go_simp; try with_reducible rfl)
                · (simp only [Act.put, List.setIfInBounds_toArray, List.set_cons_zero, List.set_cons_succ]; try rfl)
                refine takeH (i := 1) (v := ?_) (a' := ?_) ({ dst := some 45, op := Op.load 27 (Operand.tmp 3), type := 27, pos := "ref.go:54", after := #[], guard := none }) rfl (by kernel_rfl) (by kernel_rfl) (by kernel_rfl) (fun _ _ _ h => h) (by rfl) ?_ (by assumption) ?_ ?_
                rotate_left 2
                · (intro w' hSw; obtain ⟨s0, s1, s2, s3⟩ := hSw; go_simp; try with_reducible rfl)
                · (simp only [Act.put, List.setIfInBounds_toArray, List.set_cons_zero, List.set_cons_succ]; try rfl)
                refine takeH (i := 2) (v := ?_) (a' := ?_) ({ dst := some 46, op := Op.move (Operand.tmp 12), type := 3, pos := "ref.go:54", after := #[], guard := none }) rfl (by kernel_rfl) (by kernel_rfl) (by kernel_rfl) (fun _ _ _ h => h) (by rfl) ?_ (by assumption) ?_ ?_
                rotate_left 2
                · (intro w' hSw; obtain ⟨s0, s1, s2, s3⟩ := hSw; go_simp; try with_reducible rfl)
                · (simp only [Act.put, List.setIfInBounds_toArray, List.set_cons_zero, List.set_cons_succ]; try rfl)
                refine takeH (i := 6) (v := ?_) (a' := ?_) ({ dst := some 50, op := Op.move (Operand.tmp 8), type := 30, pos := "ref.go:54", after := #[], guard := none }) rfl (by kernel_rfl) (by kernel_rfl) (by kernel_rfl) (fun _ _ _ h => h) (by rfl) ?_ (by assumption) ?_ ?_
                rotate_left 2
                · (intro w' hSw; obtain ⟨s0, s1, s2, s3⟩ := hSw; go_simp; try with_reducible rfl)
                · (simp only [Act.put, List.setIfInBounds_toArray, List.set_cons_zero, List.set_cons_succ]; try rfl)
                refine takeH (i := 7) (v := ?_) (a' := ?_) ({ dst := some 51, op := Op.move (Operand.tmp 1), type := 3, pos := "ref.go:54", after := #[], guard := none }) rfl (by kernel_rfl) (by kernel_rfl) (by kernel_rfl) (fun _ _ _ h => h) (by rfl) ?_ (by assumption) ?_ ?_
                rotate_left 2
                · (intro w' hSw; obtain ⟨s0, s1, s2, s3⟩ := hSw; go_simp; try with_reducible rfl)
                · (simp only [Act.put, List.setIfInBounds_toArray, List.set_cons_zero, List.set_cons_succ]; try rfl)
                refine takeH (i := 8) (v := ?_) (a' := ?_) ({ dst := some 52, op := Op.indexAddr 30 (Operand.tmp 50) (Operand.tmp 51), type := 0, pos := "ref.go:54", after := #[{ on := 6, ground := Ground.data }, { on := 7, ground := Ground.data }], guard := none }) rfl (by kernel_rfl) (by kernel_rfl) (by kernel_rfl) (fun _ _ _ h => h) (by rfl) ?_ (by assumption) ?_ ?_
                rotate_left 2
                · (intro w' hSw; obtain ⟨s0, s1, s2, s3⟩ := hSw; go_simp; try with_reducible rfl)
                · (simp only [Act.put, List.setIfInBounds_toArray, List.set_cons_zero, List.set_cons_succ]; try rfl)
                refine takeH (i := 9) (v := ?_) (a' := ?_) ({ dst := some 53, op := Op.load 3 (Operand.tmp 52), type := 3, pos := "ref.go:54", after := #[{ on := 8, ground := Ground.data }], guard := none }) rfl (by kernel_rfl) (by kernel_rfl) (by kernel_rfl) (fun _ _ _ h => h) (by rfl) ?_ (by assumption) ?_ ?_
                rotate_left 2
                · (intro w' hSw; obtain ⟨s0, s1, s2, s3⟩ := hSw; go_simp; try with_reducible rfl)
                · (simp only [Act.put, List.setIfInBounds_toArray, List.set_cons_zero, List.set_cons_succ]; try rfl)
                refine takeH (i := 10) (v := ?_) (a' := ?_) ({ dst := some 54, op := Op.binOp BinOp.sub 3 (Operand.tmp 53) (Operand.const (Value.int IntKind.i64 1)) 3, type := 3, pos := "ref.go:54", after := #[{ on := 9, ground := Ground.data }], guard := none }) rfl (by kernel_rfl) (by kernel_rfl) (by kernel_rfl) (fun _ _ _ h => h) (by rfl) ?_ (by assumption) ?_ ?_
                rotate_left 2
                · (intro w' hSw; obtain ⟨s0, s1, s2, s3⟩ := hSw; go_simp; try with_reducible rfl)
                · (simp only [Act.put, List.setIfInBounds_toArray, List.set_cons_zero, List.set_cons_succ]; try rfl)
                refine wpAnyH_ready (rs := [3]) (by kernel_rfl) (by simp) ?_
                refine AllReadyH.cons (o := { dst := some 47, op := Op.call { callee := Callee.value (Operand.func 50), args := #[Operand.tmp 45, Operand.tmp 46], argTypes := #[27, 3] }, type := 3, pos := "ref.go:54", after := #[{ on := 1, ground := Ground.data }, { on := 2, ground := Ground.data }], guard := none }) rfl (fun K hK => ?_) AllReadyH.nil
                go_simp
                refine (hcall.out _ (Below.refl _ _).drew).mono ?_
                rintro x w7 ⟨rfl, bq⟩
                have b7 : Hid (Below wr.heap.size wr w7) := hid (below_thru ((Below.refl wr.heap.size wr).drew) bq)
                clear bq
                try go_wp2_with fail
                refine hK.out _ _ (hcell.out w7 b7.out) (fun hHeld => ?_)
                clear hK K
                try simp only [Act.put, List.setIfInBounds_toArray, List.set_cons_zero, List.set_cons_succ]
                refine takeH (i := 4) (v := ?_) (a' := ?_) ({ dst := some 48, op := Op.indexAddr 30 (Operand.tmp 44) (Operand.tmp 47), type := 0, pos := "ref.go:54", after := #[{ on := 0, ground := Ground.data }, { on := 3, ground := Ground.data }], guard := none }) rfl (by kernel_rfl) (by kernel_rfl) (by kernel_rfl) (fun _ _ _ h => h) (by rfl) ?_ (by assumption) ?_ ?_
                rotate_left 2
                · (intro w' hSw; obtain ⟨s0, s1, s2, s3⟩ := hSw; go_simp; try with_reducible rfl)
                · (simp only [Act.put, List.setIfInBounds_toArray, List.set_cons_zero, List.set_cons_succ]; try rfl)
                refine takeH (i := 5) (v := ?_) (a' := ?_) ({ dst := some 49, op := Op.load 3 (Operand.tmp 48), type := 3, pos := "ref.go:54", after := #[{ on := 4, ground := Ground.data }], guard := none }) rfl (by kernel_rfl) (by kernel_rfl) (by kernel_rfl) (fun _ _ _ h => h) (by rfl) ?_ (by assumption) ?_ ?_
                rotate_left 2
                · (intro w' hSw; obtain ⟨s0, s1, s2, s3⟩ := hSw; go_simp; try with_reducible rfl)
                · (simp only [Act.put, List.setIfInBounds_toArray, List.set_cons_zero, List.set_cons_succ]; try rfl)
                refine takeH (i := 11) (v := .bool true) (a' := ?_) ({ dst := some 55, op := Op.binOp BinOp.eql 3 (Operand.tmp 49) (Operand.tmp 54) 3, type := 4, pos := "ref.go:54", after := #[{ on := 5, ground := Ground.data }, { on := 10, ground := Ground.data }], guard := none }) rfl (by kernel_rfl) (by kernel_rfl) (by kernel_rfl) (fun _ _ _ h => h) (by rfl) ?_ (by assumption) ?_ ?_
                rotate_left 1
                · (intro w' hSw; obtain ⟨s0, s1, s2, s3⟩ := hSw; go_simp; first | done | rfl | simp [d0])
                · (simp only [Act.put, List.setIfInBounds_toArray, List.set_cons_zero, List.set_cons_succ]; try rfl)
                refine takeH (i := 12) (v := ?_) (a' := ?_) ({ dst := some 56, op := Op.move (Operand.tmp 55), type := 4, pos := "ref.go:54", after := #[{ on := 11, ground := Ground.data }, { on := 3, ground := Ground.chain }], guard := none }) rfl (by kernel_rfl) (by kernel_rfl) (by kernel_rfl) (fun _ _ _ h => h) (by rfl) ?_ (by assumption) ?_ ?_
                rotate_left 2
                · (intro w' hSw; obtain ⟨s0, s1, s2, s3⟩ := hSw; go_simp; try with_reducible rfl)
                · (simp only [Act.put, List.setIfInBounds_toArray, List.set_cons_zero, List.set_cons_succ]; try rfl)
                refine takeH (i := 13) (v := ?_) (a' := ?_) ({ dst := some 57, op := Op.move (Operand.tmp 10), type := 3, pos := "ref.go:54", after := #[{ on := 12, ground := Ground.guard }], guard := some (12, true) }) rfl (by kernel_rfl) (by kernel_rfl) (by kernel_rfl) (fun _ _ _ h => h) (by rfl) ?_ (by assumption) ?_ ?_
                rotate_left 2
                · (intro w' hSw; obtain ⟨s0, s1, s2, s3⟩ := hSw; go_simp; try with_reducible rfl)
                · (simp only [Act.put, List.setIfInBounds_toArray, List.set_cons_zero, List.set_cons_succ]; try rfl)
                refine takeH (i := 14) (v := .bool true) (a' := ?_) ({ dst := some 58, op := Op.binOp BinOp.lss 3 (Operand.tmp 57) (Operand.const (Value.int IntKind.i64 0)) 3, type := 4, pos := "ref.go:54", after := #[{ on := 13, ground := Ground.data }, { on := 12, ground := Ground.guard }], guard := some (12, true) }) rfl (by kernel_rfl) (by kernel_rfl) (by kernel_rfl) (fun _ _ _ h => h) (by rfl) ?_ (by assumption) ?_ ?_
                rotate_left 1
                · (intro w' hSw; obtain ⟨s0, s1, s2, s3⟩ := hSw; go_simp; first | done | rfl | simp [d1])
                · (simp only [Act.put, List.setIfInBounds_toArray, List.set_cons_zero, List.set_cons_succ]; try rfl)
                refine takeH (i := 15) (v := ?_) (a' := ?_) ({ dst := some 59, op := Op.move (Operand.tmp 58), type := 4, pos := "ref.go:54", after := #[{ on := 14, ground := Ground.data }, { on := 12, ground := Ground.chain }, { on := 12, ground := Ground.guard }], guard := some (12, true) }) rfl (by kernel_rfl) (by kernel_rfl) (by kernel_rfl) (fun _ _ _ h => h) (by rfl) ?_ (by assumption) ?_ ?_
                rotate_left 2
                · (intro w' hSw; obtain ⟨s0, s1, s2, s3⟩ := hSw; go_simp; try with_reducible rfl)
                · (simp only [Act.put, List.setIfInBounds_toArray, List.set_cons_zero, List.set_cons_succ]; try rfl)
                refine skipH (i := 16) (a' := ?_) ({ dst := some 60, op := Op.move (Operand.tmp 12), type := 3, pos := "ref.go:54", after := #[{ on := 15, ground := Ground.guard }], guard := some (15, false) }) rfl (by kernel_rfl) (by kernel_rfl) (by kernel_rfl) (fun _ _ _ h => h) (by rfl) (by assumption) ?_ ?_
                rotate_left 1
                · (simp only [Act.put, List.setIfInBounds_toArray, List.set_cons_zero, List.set_cons_succ]; try rfl)
                refine skipH (i := 17) (a' := ?_) ({ dst := some 61, op := Op.move (Operand.tmp 10), type := 3, pos := "ref.go:54", after := #[{ on := 15, ground := Ground.guard }], guard := some (15, false) }) rfl (by kernel_rfl) (by kernel_rfl) (by kernel_rfl) (fun _ _ _ h => h) (by rfl) (by assumption) ?_ ?_
                rotate_left 1
                · (simp only [Act.put, List.setIfInBounds_toArray, List.set_cons_zero, List.set_cons_succ]; try rfl)
                refine skipH (i := 18) (a' := ?_) ({ dst := some 62, op := Op.binOp BinOp.lss 3 (Operand.tmp 60) (Operand.tmp 61) 3, type := 4, pos := "ref.go:54", after := #[{ on := 16, ground := Ground.data }, { on := 17, ground := Ground.data }, { on := 15, ground := Ground.guard }], guard := some (15, false) }) rfl (by kernel_rfl) (by kernel_rfl) (by kernel_rfl) (fun _ _ _ h => h) (by rfl) (by assumption) ?_ ?_
                rotate_left 1
                · (simp only [Act.put, List.setIfInBounds_toArray, List.set_cons_zero, List.set_cons_succ]; try rfl)
                refine takeH (i := 19) (v := .bool true) (a' := ?_) ({ dst := some 63, op := Op.pick (Operand.tmp 59) (Operand.const (Value.bool true)) (Operand.tmp 62), type := 4, pos := "ref.go:54", after := #[{ on := 15, ground := Ground.data }, { on := 18, ground := Ground.data }, { on := 12, ground := Ground.guard }], guard := some (12, true) }) rfl (by kernel_rfl) (by kernel_rfl) (by kernel_rfl) (fun _ _ _ h => h) (by rfl) ?_ (by assumption) ?_ ?_
                rotate_left 1
                · (intro w' hSw; obtain ⟨s0, s1, s2, s3⟩ := hSw; go_simp; try rfl)
                · (simp only [Act.put, List.setIfInBounds_toArray, List.set_cons_zero, List.set_cons_succ]; try rfl)
                refine takeH (i := 20) (v := .bool true) (a' := ?_) ({ dst := some 64, op := Op.pick (Operand.tmp 56) (Operand.tmp 63) (Operand.const (Value.bool false)), type := 4, pos := "ref.go:54", after := #[{ on := 12, ground := Ground.data }, { on := 19, ground := Ground.data }], guard := none }) rfl (by kernel_rfl) (by kernel_rfl) (by kernel_rfl) (fun _ _ _ h => h) (by rfl) ?_ (by assumption) ?_ ?_
                rotate_left 1
                · (intro w' hSw; obtain ⟨s0, s1, s2, s3⟩ := hSw; go_simp; try rfl)
                · (simp only [Act.put, List.setIfInBounds_toArray, List.set_cons_zero, List.set_cons_succ]; try rfl)
                refine wpAnyH_done (by kernel_rfl) ?_ _
                refine NoPanic.normal ?_
                have hnew := hid (And.intro hnx.out (below_thru hbs.out b7.out))
                clear hcell hcall x0 x1 x2 x3 cL cd b7 hnx hbs
                go_wp2_with fail
                go_roundw
                case rel => exact ⟨i + 1, _, by omega, by go_num, rfl, hnew⟩
                case measure => simp [intOf]; omega
              · have d1 : decide ((k : Int) < 0) = false := decide_eq_false (by omega)
                by_cases hdk : d < k
                · have hnx : Hid (Atq f (fun d => og V R (tw d)) m ((R v).take (i + 1)) (d : Int)) := by rw [htk.out]; exact hid (hse.out.less hFd.out hdk)
                  have d2 : decide ((d : Int) < (k : Int)) = true := decide_eq_true (by omega)
                  have d3 : decide (d < k) = true := decide_eq_true hdk
                  clear hse
                  go_wp2_with fail
                  refine wp_region_noPanic ?_
                  refine wp_region_held_drew (S := fun q => q.cell? ⟨w.heap.size, 0, none⟩ = some (.int .i64 (E : Int)) ∧ q.cell? ⟨w.heap.size, 1, none⟩ = some (.slice (some ⟨lb_, lo_, none⟩) V cap) ∧ q.cell? ⟨fb, v, none⟩ = some (.int .i64 (M : Int)) ∧ q.cell? ⟨fb, y, none⟩ = some (.int .i64 (m : Int))) (by kernel_rfl) ⟨x0, x1, x2, x3⟩ (fun hHeld => ?_)
                  refine takeH (i := 0) (v := ?_) (a' := ?_) ({ dst := some 44, op := Op.move (Operand.tmp 8), type := 30, pos := "ref.go:54", after := #[], guard := none }) rfl (by kernel_rfl) (by kernel_rfl) (by kernel_rfl) (fun _ _ _ h => h) (by rfl) ?_ (by assumption) ?_ ?_
                  rotate_left 2
                  · (intro w' hSw; obtain ⟨s0, s1, s2, s3⟩ := hSw; go_simp; try with_reducible rfl)
                  · (simp only [Act.put, List.setIfInBounds_toArray, List.set_cons_zero, List.set_cons_succ]; try rfl)
                  refine takeH (i := 1) (v := ?_) (a' := ?_) ({ dst := some 45, op := Op.load 27 (Operand.tmp 3), type := 27, pos := "ref.go:54", after := #[], guard := none }) rfl (by kernel_rfl) (by kernel_rfl) (by kernel_rfl) (fun _ _ _ h => h) (by rfl) ?_ (by assumption) ?_ ?_
                  rotate_left 2
                  · (intro w' hSw; obtain ⟨s0, s1, s2, s3⟩ := hSw; go_simp; try with_reducible rfl)
                  · (simp only [Act.put, List.setIfInBounds_toArray, List.set_cons_zero, List.set_cons_succ]; try rfl)
                  refine takeH (i := 2) (v := ?_) (a' := ?_) ({ dst := some 46, op := Op.move (Operand.tmp 12), type := 3, pos := "ref.go:54", after := #[], guard := none }) rfl (by kernel_rfl) (by kernel_rfl) (by kernel_rfl) (fun _ _ _ h => h) (by rfl) ?_ (by assumption) ?_ ?_
                  rotate_left 2
                  · (intro w' hSw; obtain ⟨s0, s1, s2, s3⟩ := hSw; go_simp; try with_reducible rfl)
                  · (simp only [Act.put, List.setIfInBounds_toArray, List.set_cons_zero, List.set_cons_succ]; try rfl)
                  refine takeH (i := 6) (v := ?_) (a' := ?_) ({ dst := some 50, op := Op.move (Operand.tmp 8), type := 30, pos := "ref.go:54", after := #[], guard := none }) rfl (by kernel_rfl) (by kernel_rfl) (by kernel_rfl) (fun _ _ _ h => h) (by rfl) ?_ (by assumption) ?_ ?_
                  rotate_left 2
                  · (intro w' hSw; obtain ⟨s0, s1, s2, s3⟩ := hSw; go_simp; try with_reducible rfl)
                  · (simp only [Act.put, List.setIfInBounds_toArray, List.set_cons_zero, List.set_cons_succ]; try rfl)
                  refine takeH (i := 7) (v := ?_) (a' := ?_) ({ dst := some 51, op := Op.move (Operand.tmp 1), type := 3, pos := "ref.go:54", after := #[], guard := none }) rfl (by kernel_rfl) (by kernel_rfl) (by kernel_rfl) (fun _ _ _ h => h) (by rfl) ?_ (by assumption) ?_ ?_
                  rotate_left 2
                  · (intro w' hSw; obtain ⟨s0, s1, s2, s3⟩ := hSw; go_simp; try with_reducible rfl)
                  · (simp only [Act.put, List.setIfInBounds_toArray, List.set_cons_zero, List.set_cons_succ]; try rfl)
                  refine takeH (i := 8) (v := ?_) (a' := ?_) ({ dst := some 52, op := Op.indexAddr 30 (Operand.tmp 50) (Operand.tmp 51), type := 0, pos := "ref.go:54", after := #[{ on := 6, ground := Ground.data }, { on := 7, ground := Ground.data }], guard := none }) rfl (by kernel_rfl) (by kernel_rfl) (by kernel_rfl) (fun _ _ _ h => h) (by rfl) ?_ (by assumption) ?_ ?_
                  rotate_left 2
                  · (intro w' hSw; obtain ⟨s0, s1, s2, s3⟩ := hSw; go_simp; try with_reducible rfl)
                  · (simp only [Act.put, List.setIfInBounds_toArray, List.set_cons_zero, List.set_cons_succ]; try rfl)
                  refine takeH (i := 9) (v := ?_) (a' := ?_) ({ dst := some 53, op := Op.load 3 (Operand.tmp 52), type := 3, pos := "ref.go:54", after := #[{ on := 8, ground := Ground.data }], guard := none }) rfl (by kernel_rfl) (by kernel_rfl) (by kernel_rfl) (fun _ _ _ h => h) (by rfl) ?_ (by assumption) ?_ ?_
                  rotate_left 2
                  · (intro w' hSw; obtain ⟨s0, s1, s2, s3⟩ := hSw; go_simp; try with_reducible rfl)
                  · (simp only [Act.put, List.setIfInBounds_toArray, List.set_cons_zero, List.set_cons_succ]; try rfl)
                  refine takeH (i := 10) (v := ?_) (a' := ?_) ({ dst := some 54, op := Op.binOp BinOp.sub 3 (Operand.tmp 53) (Operand.const (Value.int IntKind.i64 1)) 3, type := 3, pos := "ref.go:54", after := #[{ on := 9, ground := Ground.data }], guard := none }) rfl (by kernel_rfl) (by kernel_rfl) (by kernel_rfl) (fun _ _ _ h => h) (by rfl) ?_ (by assumption) ?_ ?_
                  rotate_left 2
                  · (intro w' hSw; obtain ⟨s0, s1, s2, s3⟩ := hSw; go_simp; try with_reducible rfl)
                  · (simp only [Act.put, List.setIfInBounds_toArray, List.set_cons_zero, List.set_cons_succ]; try rfl)
                  refine wpAnyH_ready (rs := [3]) (by kernel_rfl) (by simp) ?_
                  refine AllReadyH.cons (o := { dst := some 47, op := Op.call { callee := Callee.value (Operand.func 50), args := #[Operand.tmp 45, Operand.tmp 46], argTypes := #[27, 3] }, type := 3, pos := "ref.go:54", after := #[{ on := 1, ground := Ground.data }, { on := 2, ground := Ground.data }], guard := none }) rfl (fun K hK => ?_) AllReadyH.nil
                  go_simp
                  refine (hcall.out _ (Below.refl _ _).drew).mono ?_
                  rintro x w7 ⟨rfl, bq⟩
                  have b7 : Hid (Below wr.heap.size wr w7) := hid (below_thru ((Below.refl wr.heap.size wr).drew) bq)
                  clear bq
                  try go_wp2_with fail
                  refine hK.out _ _ (hcell.out w7 b7.out) (fun hHeld => ?_)
                  clear hK K
                  try simp only [Act.put, List.setIfInBounds_toArray, List.set_cons_zero, List.set_cons_succ]
                  refine takeH (i := 4) (v := ?_) (a' := ?_) ({ dst := some 48, op := Op.indexAddr 30 (Operand.tmp 44) (Operand.tmp 47), type := 0, pos := "ref.go:54", after := #[{ on := 0, ground := Ground.data }, { on := 3, ground := Ground.data }], guard := none }) rfl (by kernel_rfl) (by kernel_rfl) (by kernel_rfl) (fun _ _ _ h => h) (by rfl) ?_ (by assumption) ?_ ?_
                  rotate_left 2
                  · (intro w' hSw; obtain ⟨s0, s1, s2, s3⟩ := hSw; go_simp; try with_reducible rfl)
                  · (simp only [Act.put, List.setIfInBounds_toArray, List.set_cons_zero, List.set_cons_succ]; try rfl)
                  refine takeH (i := 5) (v := ?_) (a' := ?_) ({ dst := some 49, op := Op.load 3 (Operand.tmp 48), type := 3, pos := "ref.go:54", after := #[{ on := 4, ground := Ground.data }], guard := none }) rfl (by kernel_rfl) (by kernel_rfl) (by kernel_rfl) (fun _ _ _ h => h) (by rfl) ?_ (by assumption) ?_ ?_
                  rotate_left 2
                  · (intro w' hSw; obtain ⟨s0, s1, s2, s3⟩ := hSw; go_simp; try with_reducible rfl)
                  · (simp only [Act.put, List.setIfInBounds_toArray, List.set_cons_zero, List.set_cons_succ]; try rfl)
                  refine takeH (i := 11) (v := .bool true) (a' := ?_) ({ dst := some 55, op := Op.binOp BinOp.eql 3 (Operand.tmp 49) (Operand.tmp 54) 3, type := 4, pos := "ref.go:54", after := #[{ on := 5, ground := Ground.data }, { on := 10, ground := Ground.data }], guard := none }) rfl (by kernel_rfl) (by kernel_rfl) (by kernel_rfl) (fun _ _ _ h => h) (by rfl) ?_ (by assumption) ?_ ?_
                  rotate_left 1
                  · (intro w' hSw; obtain ⟨s0, s1, s2, s3⟩ := hSw; go_simp; first | done | rfl | simp [d0])
                  · (simp only [Act.put, List.setIfInBounds_toArray, List.set_cons_zero, List.set_cons_succ]; try rfl)
                  refine takeH (i := 12) (v := ?_) (a' := ?_) ({ dst := some 56, op := Op.move (Operand.tmp 55), type := 4, pos := "ref.go:54", after := #[{ on := 11, ground := Ground.data }, { on := 3, ground := Ground.chain }], guard := none }) rfl (by kernel_rfl) (by kernel_rfl) (by kernel_rfl) (fun _ _ _ h => h) (by rfl) ?_ (by assumption) ?_ ?_
                  rotate_left 2
                  · (intro w' hSw; obtain ⟨s0, s1, s2, s3⟩ := hSw; go_simp; try with_reducible rfl)
                  · (simp only [Act.put, List.setIfInBounds_toArray, List.set_cons_zero, List.set_cons_succ]; try rfl)
                  refine takeH (i := 13) (v := ?_) (a' := ?_) ({ dst := some 57, op := Op.move (Operand.tmp 10), type := 3, pos := "ref.go:54", after := #[{ on := 12, ground := Ground.guard }], guard := some (12, true) }) rfl (by kernel_rfl) (by kernel_rfl) (by kernel_rfl) (fun _ _ _ h => h) (by rfl) ?_ (by assumption) ?_ ?_
                  rotate_left 2
                  · (intro w' hSw; obtain ⟨s0, s1, s2, s3⟩ := hSw; go_simp; try with_reducible rfl)
                  · (simp only [Act.put, List.setIfInBounds_toArray, List.set_cons_zero, List.set_cons_succ]; try rfl)
                  refine takeH (i := 14) (v := .bool false) (a' := ?_) ({ dst := some 58, op := Op.binOp BinOp.lss 3 (Operand.tmp 57) (Operand.const (Value.int IntKind.i64 0)) 3, type := 4, pos := "ref.go:54", after := #[{ on := 13, ground := Ground.data }, { on := 12, ground := Ground.guard }], guard := some (12, true) }) rfl (by kernel_rfl) (by kernel_rfl) (by kernel_rfl) (fun _ _ _ h => h) (by rfl) ?_ (by assumption) ?_ ?_
                  rotate_left 1
                  · (intro w' hSw; obtain ⟨s0, s1, s2, s3⟩ := hSw; go_simp; first | done | rfl | simp [d1])
                  · (simp only [Act.put, List.setIfInBounds_toArray, List.set_cons_zero, List.set_cons_succ]; try rfl)
                  refine takeH (i := 15) (v := ?_) (a' := ?_) ({ dst := some 59, op := Op.move (Operand.tmp 58), type := 4, pos := "ref.go:54", after := #[{ on := 14, ground := Ground.data }, { on := 12, ground := Ground.chain }, { on := 12, ground := Ground.guard }], guard := some (12, true) }) rfl (by kernel_rfl) (by kernel_rfl) (by kernel_rfl) (fun _ _ _ h => h) (by rfl) ?_ (by assumption) ?_ ?_
                  rotate_left 2
                  · (intro w' hSw; obtain ⟨s0, s1, s2, s3⟩ := hSw; go_simp; try with_reducible rfl)
                  · (simp only [Act.put, List.setIfInBounds_toArray, List.set_cons_zero, List.set_cons_succ]; try rfl)
                  refine takeH (i := 16) (v := ?_) (a' := ?_) ({ dst := some 60, op := Op.move (Operand.tmp 12), type := 3, pos := "ref.go:54", after := #[{ on := 15, ground := Ground.guard }], guard := some (15, false) }) rfl (by kernel_rfl) (by kernel_rfl) (by kernel_rfl) (fun _ _ _ h => h) (by rfl) ?_ (by assumption) ?_ ?_
                  rotate_left 2
                  · (intro w' hSw; obtain ⟨s0, s1, s2, s3⟩ := hSw; go_simp; try with_reducible rfl)
                  · (simp only [Act.put, List.setIfInBounds_toArray, List.set_cons_zero, List.set_cons_succ]; try rfl)
                  refine takeH (i := 17) (v := ?_) (a' := ?_) ({ dst := some 61, op := Op.move (Operand.tmp 10), type := 3, pos := "ref.go:54", after := #[{ on := 15, ground := Ground.guard }], guard := some (15, false) }) rfl (by kernel_rfl) (by kernel_rfl) (by kernel_rfl) (fun _ _ _ h => h) (by rfl) ?_ (by assumption) ?_ ?_
                  rotate_left 2
                  · (intro w' hSw; obtain ⟨s0, s1, s2, s3⟩ := hSw; go_simp; try with_reducible rfl)
                  · (simp only [Act.put, List.setIfInBounds_toArray, List.set_cons_zero, List.set_cons_succ]; try rfl)
                  refine takeH (i := 18) (v := .bool true) (a' := ?_) ({ dst := some 62, op := Op.binOp BinOp.lss 3 (Operand.tmp 60) (Operand.tmp 61) 3, type := 4, pos := "ref.go:54", after := #[{ on := 16, ground := Ground.data }, { on := 17, ground := Ground.data }, { on := 15, ground := Ground.guard }], guard := some (15, false) }) rfl (by kernel_rfl) (by kernel_rfl) (by kernel_rfl) (fun _ _ _ h => h) (by rfl) ?_ (by assumption) ?_ ?_
                  rotate_left 1
                  · (intro w' hSw; obtain ⟨s0, s1, s2, s3⟩ := hSw; go_simp; first | done | rfl | simp [d2] | simp [d3])
                  · (simp only [Act.put, List.setIfInBounds_toArray, List.set_cons_zero, List.set_cons_succ]; try rfl)
                  refine takeH (i := 19) (v := .bool true) (a' := ?_) ({ dst := some 63, op := Op.pick (Operand.tmp 59) (Operand.const (Value.bool true)) (Operand.tmp 62), type := 4, pos := "ref.go:54", after := #[{ on := 15, ground := Ground.data }, { on := 18, ground := Ground.data }, { on := 12, ground := Ground.guard }], guard := some (12, true) }) rfl (by kernel_rfl) (by kernel_rfl) (by kernel_rfl) (fun _ _ _ h => h) (by rfl) ?_ (by assumption) ?_ ?_
                  rotate_left 1
                  · (intro w' hSw; obtain ⟨s0, s1, s2, s3⟩ := hSw; go_simp; try rfl)
                  · (simp only [Act.put, List.setIfInBounds_toArray, List.set_cons_zero, List.set_cons_succ]; try rfl)
                  refine takeH (i := 20) (v := .bool true) (a' := ?_) ({ dst := some 64, op := Op.pick (Operand.tmp 56) (Operand.tmp 63) (Operand.const (Value.bool false)), type := 4, pos := "ref.go:54", after := #[{ on := 12, ground := Ground.data }, { on := 19, ground := Ground.data }], guard := none }) rfl (by kernel_rfl) (by kernel_rfl) (by kernel_rfl) (fun _ _ _ h => h) (by rfl) ?_ (by assumption) ?_ ?_
                  rotate_left 1
                  · (intro w' hSw; obtain ⟨s0, s1, s2, s3⟩ := hSw; go_simp; try rfl)
                  · (simp only [Act.put, List.setIfInBounds_toArray, List.set_cons_zero, List.set_cons_succ]; try rfl)
                  refine wpAnyH_done (by kernel_rfl) ?_ _
                  refine NoPanic.normal ?_
                  have hnew := hid (And.intro hnx.out (below_thru hbs.out b7.out))
                  clear hcell hcall x0 x1 x2 x3 cL cd b7 hnx hbs
                  go_wp2_with fail
                  go_roundw
                  case rel => exact ⟨i + 1, _, by omega, by go_num, rfl, hnew⟩
                  case measure => simp [intOf]; omega
                · have hnx : Hid (Atq f (fun d => og V R (tw d)) m ((R v).take (i + 1)) (k : Int)) := by rw [htk.out]; exact hid (hse.out.more hdk)
                  have d2 : decide ((d : Int) < (k : Int)) = false := decide_eq_false (by omega)
                  have d3 : decide (d < k) = false := decide_eq_false hdk
                  clear hse
                  go_wp2_with fail
                  refine wp_region_noPanic ?_
                  refine wp_region_held_drew (S := fun q => q.cell? ⟨w.heap.size, 0, none⟩ = some (.int .i64 (E : Int)) ∧ q.cell? ⟨w.heap.size, 1, none⟩ = some (.slice (some ⟨lb_, lo_, none⟩) V cap) ∧ q.cell? ⟨fb, v, none⟩ = some (.int .i64 (M : Int)) ∧ q.cell? ⟨fb, y, none⟩ = some (.int .i64 (m : Int))) (by kernel_rfl) ⟨x0, x1, x2, x3⟩ (fun hHeld => ?_)
                  refine takeH (i := 0) (v := ?_) (a' := ?_) ({ dst := some 44, op := Op.move (Operand.tmp 8), type := 30, pos := "ref.go:54", after := #[], guard := none }) rfl (by kernel_rfl) (by kernel_rfl) (by kernel_rfl) (fun _ _ _ h => h) (by rfl) ?_ (by assumption) ?_ ?_
                  rotate_left 2
                  · (intro w' hSw; obtain ⟨s0, s1, s2, s3⟩ := hSw; go_simp; try with_reducible rfl)
                  · (simp only [Act.put, List.setIfInBounds_toArray, List.set_cons_zero, List.set_cons_succ]; try rfl)
                  refine takeH (i := 1) (v := ?_) (a' := ?_) ({ dst := some 45, op := Op.load 27 (Operand.tmp 3), type := 27, pos := "ref.go:54", after := #[], guard := none }) rfl (by kernel_rfl) (by kernel_rfl) (by kernel_rfl) (fun _ _ _ h => h) (by rfl) ?_ (by assumption) ?_ ?_
                  rotate_left 2
                  · (intro w' hSw; obtain ⟨s0, s1, s2, s3⟩ := hSw; go_simp; try with_reducible rfl)
                  · (simp only [Act.put, List.setIfInBounds_toArray, List.set_cons_zero, List.set_cons_succ]; try rfl)
                  refine takeH (i := 2) (v := ?_) (a' := ?_) ({ dst := some 46, op := Op.move (Operand.tmp 12), type := 3, pos := "ref.go:54", after := #[], guard := none }) rfl (by kernel_rfl) (by kernel_rfl) (by kernel_rfl) (fun _ _ _ h => h) (by rfl) ?_ (by assumption) ?_ ?_
                  rotate_left 2
                  · (intro w' hSw; obtain ⟨s0, s1, s2, s3⟩ := hSw; go_simp; try with_reducible rfl)
                  · (simp only [Act.put, List.setIfInBounds_toArray, List.set_cons_zero, List.set_cons_succ]; try rfl)
                  refine takeH (i := 6) (v := ?_) (a' := ?_) ({ dst := some 50, op := Op.move (Operand.tmp 8), type := 30, pos := "ref.go:54", after := #[], guard := none }) rfl (by kernel_rfl) (by kernel_rfl) (by kernel_rfl) (fun _ _ _ h => h) (by rfl) ?_ (by assumption) ?_ ?_
                  rotate_left 2
                  · (intro w' hSw; obtain ⟨s0, s1, s2, s3⟩ := hSw; go_simp; try with_reducible rfl)
                  · (simp only [Act.put, List.setIfInBounds_toArray, List.set_cons_zero, List.set_cons_succ]; try rfl)
                  refine takeH (i := 7) (v := ?_) (a' := ?_) ({ dst := some 51, op := Op.move (Operand.tmp 1), type := 3, pos := "ref.go:54", after := #[], guard := none }) rfl (by kernel_rfl) (by kernel_rfl) (by kernel_rfl) (fun _ _ _ h => h) (by rfl) ?_ (by assumption) ?_ ?_
                  rotate_left 2
                  · (intro w' hSw; obtain ⟨s0, s1, s2, s3⟩ := hSw; go_simp; try with_reducible rfl)
                  · (simp only [Act.put, List.setIfInBounds_toArray, List.set_cons_zero, List.set_cons_succ]; try rfl)
                  refine takeH (i := 8) (v := ?_) (a' := ?_) ({ dst := some 52, op := Op.indexAddr 30 (Operand.tmp 50) (Operand.tmp 51), type := 0, pos := "ref.go:54", after := #[{ on := 6, ground := Ground.data }, { on := 7, ground := Ground.data }], guard := none }) rfl (by kernel_rfl) (by kernel_rfl) (by kernel_rfl) (fun _ _ _ h => h) (by rfl) ?_ (by assumption) ?_ ?_
                  rotate_left 2
                  · (intro w' hSw; obtain ⟨s0, s1, s2, s3⟩ := hSw; go_simp; try with_reducible rfl)
                  · (simp only [Act.put, List.setIfInBounds_toArray, List.set_cons_zero, List.set_cons_succ]; try rfl)
                  refine takeH (i := 9) (v := ?_) (a' := ?_) ({ dst := some 53, op := Op.load 3 (Operand.tmp 52), type := 3, pos := "ref.go:54", after := #[{ on := 8, ground := Ground.data }], guard := none }) rfl (by kernel_rfl) (by kernel_rfl) (by kernel_rfl) (fun _ _ _ h => h) (by rfl) ?_ (by assumption) ?_ ?_
                  rotate_left 2
                  · (intro w' hSw; obtain ⟨s0, s1, s2, s3⟩ := hSw; go_simp; try with_reducible rfl)
                  · (simp only [Act.put, List.setIfInBounds_toArray, List.set_cons_zero, List.set_cons_succ]; try rfl)
                  refine takeH (i := 10) (v := ?_) (a' := ?_) ({ dst := some 54, op := Op.binOp BinOp.sub 3 (Operand.tmp 53) (Operand.const (Value.int IntKind.i64 1)) 3, type := 3, pos := "ref.go:54", after := #[{ on := 9, ground := Ground.data }], guard := none }) rfl (by kernel_rfl) (by kernel_rfl) (by kernel_rfl) (fun _ _ _ h => h) (by rfl) ?_ (by assumption) ?_ ?_
                  rotate_left 2
                  · (intro w' hSw; obtain ⟨s0, s1, s2, s3⟩ := hSw; go_simp; try with_reducible rfl)
                  · (simp only [Act.put, List.setIfInBounds_toArray, List.set_cons_zero, List.set_cons_succ]; try rfl)
                  refine wpAnyH_ready (rs := [3]) (by kernel_rfl) (by simp) ?_
                  refine AllReadyH.cons (o := { dst := some 47, op := Op.call { callee := Callee.value (Operand.func 50), args := #[Operand.tmp 45, Operand.tmp 46], argTypes := #[27, 3] }, type := 3, pos := "ref.go:54", after := #[{ on := 1, ground := Ground.data }, { on := 2, ground := Ground.data }], guard := none }) rfl (fun K hK => ?_) AllReadyH.nil
                  go_simp
                  refine (hcall.out _ (Below.refl _ _).drew).mono ?_
                  rintro x w7 ⟨rfl, bq⟩
                  have b7 : Hid (Below wr.heap.size wr w7) := hid (below_thru ((Below.refl wr.heap.size wr).drew) bq)
                  clear bq
                  try go_wp2_with fail
                  refine hK.out _ _ (hcell.out w7 b7.out) (fun hHeld => ?_)
                  clear hK K
                  try simp only [Act.put, List.setIfInBounds_toArray, List.set_cons_zero, List.set_cons_succ]
                  refine takeH (i := 4) (v := ?_) (a' := ?_) ({ dst := some 48, op := Op.indexAddr 30 (Operand.tmp 44) (Operand.tmp 47), type := 0, pos := "ref.go:54", after := #[{ on := 0, ground := Ground.data }, { on := 3, ground := Ground.data }], guard := none }) rfl (by kernel_rfl) (by kernel_rfl) (by kernel_rfl) (fun _ _ _ h => h) (by rfl) ?_ (by assumption) ?_ ?_
                  rotate_left 2
                  · (intro w' hSw; obtain ⟨s0, s1, s2, s3⟩ := hSw; go_simp; try with_reducible rfl)
                  · (simp only [Act.put, List.setIfInBounds_toArray, List.set_cons_zero, List.set_cons_succ]; try rfl)
                  refine takeH (i := 5) (v := ?_) (a' := ?_) ({ dst := some 49, op := Op.load 3 (Operand.tmp 48), type := 3, pos := "ref.go:54", after := #[{ on := 4, ground := Ground.data }], guard := none }) rfl (by kernel_rfl) (by kernel_rfl) (by kernel_rfl) (fun _ _ _ h => h) (by rfl) ?_ (by assumption) ?_ ?_
                  rotate_left 2
                  · (intro w' hSw; obtain ⟨s0, s1, s2, s3⟩ := hSw; go_simp; try with_reducible rfl)
                  · (simp only [Act.put, List.setIfInBounds_toArray, List.set_cons_zero, List.set_cons_succ]; try rfl)
                  refine takeH (i := 11) (v := .bool true) (a' := ?_) ({ dst := some 55, op := Op.binOp BinOp.eql 3 (Operand.tmp 49) (Operand.tmp 54) 3, type := 4, pos := "ref.go:54", after := #[{ on := 5, ground := Ground.data }, { on := 10, ground := Ground.data }], guard := none }) rfl (by kernel_rfl) (by kernel_rfl) (by kernel_rfl) (fun _ _ _ h => h) (by rfl) ?_ (by assumption) ?_ ?_
                  rotate_left 1
                  · (intro w' hSw; obtain ⟨s0, s1, s2, s3⟩ := hSw; go_simp; first | done | rfl | simp [d0])
                  · (simp only [Act.put, List.setIfInBounds_toArray, List.set_cons_zero, List.set_cons_succ]; try rfl)
                  refine takeH (i := 12) (v := ?_) (a' := ?_) ({ dst := some 56, op := Op.move (Operand.tmp 55), type := 4, pos := "ref.go:54", after := #[{ on := 11, ground := Ground.data }, { on := 3, ground := Ground.chain }], guard := none }) rfl (by kernel_rfl) (by kernel_rfl) (by kernel_rfl) (fun _ _ _ h => h) (by rfl) ?_ (by assumption) ?_ ?_
                  rotate_left 2
                  · (intro w' hSw; obtain ⟨s0, s1, s2, s3⟩ := hSw; go_simp; try with_reducible rfl)
                  · (simp only [Act.put, List.setIfInBounds_toArray, List.set_cons_zero, List.set_cons_succ]; try rfl)
                  refine takeH (i := 13) (v := ?_) (a' := ?_) ({ dst := some 57, op := Op.move (Operand.tmp 10), type := 3, pos := "ref.go:54", after := #[{ on := 12, ground := Ground.guard }], guard := some (12, true) }) rfl (by kernel_rfl) (by kernel_rfl) (by kernel_rfl) (fun _ _ _ h => h) (by rfl) ?_ (by assumption) ?_ ?_
                  rotate_left 2
                  · (intro w' hSw; obtain ⟨s0, s1, s2, s3⟩ := hSw; go_simp; try with_reducible rfl)
                  · (simp only [Act.put, List.setIfInBounds_toArray, List.set_cons_zero, List.set_cons_succ]; try rfl)
                  refine takeH (i := 14) (v := .bool false) (a' := ?_) ({ dst := some 58, op := Op.binOp BinOp.lss 3 (Operand.tmp 57) (Operand.const (Value.int IntKind.i64 0)) 3, type := 4, pos := "ref.go:54", after := #[{ on := 13, ground := Ground.data }, { on := 12, ground := Ground.guard }], guard := some (12, true) }) rfl (by kernel_rfl) (by kernel_rfl) (by kernel_rfl) (fun _ _ _ h => h) (by rfl) ?_ (by assumption) ?_ ?_
                  rotate_left 1
                  · (intro w' hSw; obtain ⟨s0, s1, s2, s3⟩ := hSw; go_simp; first | done | rfl | simp [d1])
                  · (simp only [Act.put, List.setIfInBounds_toArray, List.set_cons_zero, List.set_cons_succ]; try rfl)
                  refine takeH (i := 15) (v := ?_) (a' := ?_) ({ dst := some 59, op := Op.move (Operand.tmp 58), type := 4, pos := "ref.go:54", after := #[{ on := 14, ground := Ground.data }, { on := 12, ground := Ground.chain }, { on := 12, ground := Ground.guard }], guard := some (12, true) }) rfl (by kernel_rfl) (by kernel_rfl) (by kernel_rfl) (fun _ _ _ h => h) (by rfl) ?_ (by assumption) ?_ ?_
                  rotate_left 2
                  · (intro w' hSw; obtain ⟨s0, s1, s2, s3⟩ := hSw; go_simp; try with_reducible rfl)
                  · (simp only [Act.put, List.setIfInBounds_toArray, List.set_cons_zero, List.set_cons_succ]; try rfl)
                  refine takeH (i := 16) (v := ?_) (a' := ?_) ({ dst := some 60, op := Op.move (Operand.tmp 12), type := 3, pos := "ref.go:54", after := #[{ on := 15, ground := Ground.guard }], guard := some (15, false) }) rfl (by kernel_rfl) (by kernel_rfl) (by kernel_rfl) (fun _ _ _ h => h) (by rfl) ?_ (by assumption) ?_ ?_
                  rotate_left 2
                  · (intro w' hSw; obtain ⟨s0, s1, s2, s3⟩ := hSw; go_simp; try with_reducible rfl)
                  · (simp only [Act.put, List.setIfInBounds_toArray, List.set_cons_zero, List.set_cons_succ]; try rfl)
                  refine takeH (i := 17) (v := ?_) (a' := ?_) ({ dst := some 61, op := Op.move (Operand.tmp 10), type := 3, pos := "ref.go:54", after := #[{ on := 15, ground := Ground.guard }], guard := some (15, false) }) rfl (by kernel_rfl) (by kernel_rfl) (by kernel_rfl) (fun _ _ _ h => h) (by rfl) ?_ (by assumption) ?_ ?_
                  rotate_left 2
                  · (intro w' hSw; obtain ⟨s0, s1, s2, s3⟩ := hSw; go_simp; try with_reducible rfl)
                  · (simp only [Act.put, List.setIfInBounds_toArray, List.set_cons_zero, List.set_cons_succ]; try rfl)
                  refine takeH (i := 18) (v := .bool false) (a' := ?_) ({ dst := some 62, op := Op.binOp BinOp.lss 3 (Operand.tmp 60) (Operand.tmp 61) 3, type := 4, pos := "ref.go:54", after := #[{ on := 16, ground := Ground.data }, { on := 17, ground := Ground.data }, { on := 15, ground := Ground.guard }], guard := some (15, false) }) rfl (by kernel_rfl) (by kernel_rfl) (by kernel_rfl) (fun _ _ _ h => h) (by rfl) ?_ (by assumption) ?_ ?_
                  rotate_left 1
                  · (intro w' hSw; obtain ⟨s0, s1, s2, s3⟩ := hSw; go_simp; first | done | rfl | simp [d2] | simp [d3])
                  · (simp only [Act.put, List.setIfInBounds_toArray, List.set_cons_zero, List.set_cons_succ]; try rfl)
                  refine takeH (i := 19) (v := .bool false) (a' := ?_) ({ dst := some 63, op := Op.pick (Operand.tmp 59) (Operand.const (Value.bool true)) (Operand.tmp 62), type := 4, pos := "ref.go:54", after := #[{ on := 15, ground := Ground.data }, { on := 18, ground := Ground.data }, { on := 12, ground := Ground.guard }], guard := some (12, true) }) rfl (by kernel_rfl) (by kernel_rfl) (by kernel_rfl) (fun _ _ _ h => h) (by rfl) ?_ (by assumption) ?_ ?_
                  rotate_left 1
                  · (intro w' hSw; obtain ⟨s0, s1, s2, s3⟩ := hSw; go_simp; try rfl)
                  · (simp only [Act.put, List.setIfInBounds_toArray, List.set_cons_zero, List.set_cons_succ]; try rfl)
                  refine takeH (i := 20) (v := .bool false) (a' := ?_) ({ dst := some 64, op := Op.pick (Operand.tmp 56) (Operand.tmp 63) (Operand.const (Value.bool false)), type := 4, pos := "ref.go:54", after := #[{ on := 12, ground := Ground.data }, { on := 19, ground := Ground.data }], guard := none }) rfl (by kernel_rfl) (by kernel_rfl) (by kernel_rfl) (fun _ _ _ h => h) (by rfl) ?_ (by assumption) ?_ ?_
                  rotate_left 1
                  · (intro w' hSw; obtain ⟨s0, s1, s2, s3⟩ := hSw; go_simp; try rfl)
                  · (simp only [Act.put, List.setIfInBounds_toArray, List.set_cons_zero, List.set_cons_succ]; try rfl)
                  refine wpAnyH_done (by kernel_rfl) ?_ _
                  refine NoPanic.normal ?_
                  have hnew := hid (And.intro hnx.out (below_thru hbs.out b7.out))
                  clear hcell hcall x0 x1 x2 x3 cL cd b7 hnx hbs
                  go_wp2_with fail
                  go_roundw
                  case rel => exact ⟨i + 1, _, by omega, by go_num, rfl, hnew⟩
                  case measure => simp [intOf]; omega
            · have hnx : Hid (Atq f (fun d => og V R (tw d)) m ((R v).take (i + 1)) z) := by rw [htk.out]; exact hid (hse.out.no (by show f (og V R (tw d)) ≠ _; rw [hfy.out]; exact hF))
              have d0 : (f y == (m : Int)) = false := by simp [hF]
              generalize f y = Fy at x3 hcell d0
              clear hse hF hy
              go_wp2_with fail
              refine wp_region_noPanic ?_
              refine wp_region_held_drew (S := fun q => q.cell? ⟨w.heap.size, 0, none⟩ = some (.int .i64 (E : Int)) ∧ q.cell? ⟨w.heap.size, 1, none⟩ = some (.slice (some ⟨lb_, lo_, none⟩) V cap) ∧ q.cell? ⟨fb, v, none⟩ = some (.int .i64 (M : Int)) ∧ q.cell? ⟨fb, y, none⟩ = some (.int .i64 Fy)) (by kernel_rfl) ⟨x0, x1, x2, x3⟩ (fun hHeld => ?_)
              refine takeH (i := 0) (v := ?_) (a' := ?_) ({ dst := some 44, op := Op.move (Operand.tmp 8), type := 30, pos := "ref.go:54", after := #[], guard := none }) rfl (by kernel_rfl) (by kernel_rfl) (by kernel_rfl) (fun _ _ _ h => h) (by rfl) ?_ (by assumption) ?_ ?_
              rotate_left 2
              · (intro w' hSw; obtain ⟨s0, s1, s2, s3⟩ := hSw; go_simp; try with_reducible rfl)
              · (simp only [Act.put, List.setIfInBounds_toArray, List.set_cons_zero, List.set_cons_succ]; try rfl)
              refine takeH (i := 1) (v := ?_) (a' := ?_) ({ dst := some 45, op := Op.load 27 (Operand.tmp 3), type := 27, pos := "ref.go:54", after := #[], guard := none }) rfl (by kernel_rfl) (by kernel_rfl) (by kernel_rfl) (fun _ _ _ h => h) (by rfl) ?_ (by assumption) ?_ ?_
              rotate_left 2
              · (intro w' hSw; obtain ⟨s0, s1, s2, s3⟩ := hSw; go_simp; try with_reducible rfl)
              · (simp only [Act.put, List.setIfInBounds_toArray, List.set_cons_zero, List.set_cons_succ]; try rfl)
              refine takeH (i := 2) (v := ?_) (a' := ?_) ({ dst := some 46, op := Op.move (Operand.tmp 12), type := 3, pos := "ref.go:54", after := #[], guard := none }) rfl (by kernel_rfl) (by kernel_rfl) (by kernel_rfl) (fun _ _ _ h => h) (by rfl) ?_ (by assumption) ?_ ?_
              rotate_left 2
              · (intro w' hSw; obtain ⟨s0, s1, s2, s3⟩ := hSw; go_simp; try with_reducible rfl)
              · (simp only [Act.put, List.setIfInBounds_toArray, List.set_cons_zero, List.set_cons_succ]; try rfl)
              refine takeH (i := 6) (v := ?_) (a' := ?_) ({ dst := some 50, op := Op.move (Operand.tmp 8), type := 30, pos := "ref.go:54", after := #[], guard := none }) rfl (by kernel_rfl) (by kernel_rfl) (by kernel_rfl) (fun _ _ _ h => h) (by rfl) ?_ (by assumption) ?_ ?_
              rotate_left 2
              · (intro w' hSw; obtain ⟨s0, s1, s2, s3⟩ := hSw; go_simp; try with_reducible rfl)
              · (simp only [Act.put, List.setIfInBounds_toArray, List.set_cons_zero, List.set_cons_succ]; try rfl)
              refine takeH (i := 7) (v := ?_) (a' := ?_) ({ dst := some 51, op := Op.move (Operand.tmp 1), type := 3, pos := "ref.go:54", after := #[], guard := none }) rfl (by kernel_rfl) (by kernel_rfl) (by kernel_rfl) (fun _ _ _ h => h) (by rfl) ?_ (by assumption) ?_ ?_
              rotate_left 2
              · (intro w' hSw; obtain ⟨s0, s1, s2, s3⟩ := hSw; go_simp; try with_reducible rfl)
              · (simp only [Act.put, List.setIfInBounds_toArray, List.set_cons_zero, List.set_cons_succ]; try rfl)
              refine takeH (i := 8) (v := ?_) (a' := ?_) ({ dst := some 52, op := Op.indexAddr 30 (Operand.tmp 50) (Operand.tmp 51), type := 0, pos := "ref.go:54", after := #[{ on := 6, ground := Ground.data }, { on := 7, ground := Ground.data }], guard := none }) rfl (by kernel_rfl) (by kernel_rfl) (by kernel_rfl) (fun _ _ _ h => h) (by rfl) ?_ (by assumption) ?_ ?_
              rotate_left 2
              · (intro w' hSw; obtain ⟨s0, s1, s2, s3⟩ := hSw; go_simp; try with_reducible rfl)
              · (simp only [Act.put, List.setIfInBounds_toArray, List.set_cons_zero, List.set_cons_succ]; try rfl)
              refine takeH (i := 9) (v := ?_) (a' := ?_) ({ dst := some 53, op := Op.load 3 (Operand.tmp 52), type := 3, pos := "ref.go:54", after := #[{ on := 8, ground := Ground.data }], guard := none }) rfl (by kernel_rfl) (by kernel_rfl) (by kernel_rfl) (fun _ _ _ h => h) (by rfl) ?_ (by assumption) ?_ ?_
              rotate_left 2
              · (intro w' hSw; obtain ⟨s0, s1, s2, s3⟩ := hSw; go_simp; try with_reducible rfl)
              · (simp only [Act.put, List.setIfInBounds_toArray, List.set_cons_zero, List.set_cons_succ]; try rfl)
              refine takeH (i := 10) (v := ?_) (a' := ?_) ({ dst := some 54, op := Op.binOp BinOp.sub 3 (Operand.tmp 53) (Operand.const (Value.int IntKind.i64 1)) 3, type := 3, pos := "ref.go:54", after := #[{ on := 9, ground := Ground.data }], guard := none }) rfl (by kernel_rfl) (by kernel_rfl) (by kernel_rfl) (fun _ _ _ h => h) (by rfl) ?_ (by assumption) ?_ ?_
              rotate_left 2
              · (intro w' hSw; obtain ⟨s0, s1, s2, s3⟩ := hSw; go_simp; try with_reducible rfl)
              · (simp only [Act.put, List.setIfInBounds_toArray, List.set_cons_zero, List.set_cons_succ]; try rfl)
              refine wpAnyH_ready (rs := [3]) (by kernel_rfl) (by simp) ?_
              refine AllReadyH.cons (o := { dst := some 47, op := Op.call { callee := Callee.value (Operand.func 50), args := #[Operand.tmp 45, Operand.tmp 46], argTypes := #[27, 3] }, type := 3, pos := "ref.go:54", after := #[{ on := 1, ground := Ground.data }, { on := 2, ground := Ground.data }], guard := none }) rfl (fun K hK => ?_) AllReadyH.nil
              go_simp
              refine (hcall.out _ (Below.refl _ _).drew).mono ?_
              rintro x w7 ⟨rfl, bq⟩
              have b7 : Hid (Below wr.heap.size wr w7) := hid (below_thru ((Below.refl wr.heap.size wr).drew) bq)
              clear bq
              try go_wp2_with fail
              refine hK.out _ _ (hcell.out w7 b7.out) (fun hHeld => ?_)
              clear hK K
              try simp only [Act.put, List.setIfInBounds_toArray, List.set_cons_zero, List.set_cons_succ]
              refine takeH (i := 4) (v := ?_) (a' := ?_) ({ dst := some 48, op := Op.indexAddr 30 (Operand.tmp 44) (Operand.tmp 47), type := 0, pos := "ref.go:54", after := #[{ on := 0, ground := Ground.data }, { on := 3, ground := Ground.data }], guard := none }) rfl (by kernel_rfl) (by kernel_rfl) (by kernel_rfl) (fun _ _ _ h => h) (by rfl) ?_ (by assumption) ?_ ?_
              rotate_left 2
              · (intro w' hSw; obtain ⟨s0, s1, s2, s3⟩ := hSw; go_simp; try with_reducible rfl)
              · (simp only [Act.put, List.setIfInBounds_toArray, List.set_cons_zero, List.set_cons_succ]; try rfl)
              refine takeH (i := 5) (v := ?_) (a' := ?_) ({ dst := some 49, op := Op.load 3 (Operand.tmp 48), type := 3, pos := "ref.go:54", after := #[{ on := 4, ground := Ground.data }], guard := none }) rfl (by kernel_rfl) (by kernel_rfl) (by kernel_rfl) (fun _ _ _ h => h) (by rfl) ?_ (by assumption) ?_ ?_
              rotate_left 2
              · (intro w' hSw; obtain ⟨s0, s1, s2, s3⟩ := hSw; go_simp; try with_reducible rfl)
              · (simp only [Act.put, List.setIfInBounds_toArray, List.set_cons_zero, List.set_cons_succ]; try rfl)
              refine takeH (i := 11) (v := .bool false) (a' := ?_) ({ dst := some 55, op := Op.binOp BinOp.eql 3 (Operand.tmp 49) (Operand.tmp 54) 3, type := 4, pos := "ref.go:54", after := #[{ on := 5, ground := Ground.data }, { on := 10, ground := Ground.data }], guard := none }) rfl (by kernel_rfl) (by kernel_rfl) (by kernel_rfl) (fun _ _ _ h => h) (by rfl) ?_ (by assumption) ?_ ?_
              rotate_left 1
              · (intro w' hSw; obtain ⟨s0, s1, s2, s3⟩ := hSw; go_simp; first | done | rfl | simp [d0])
              · (simp only [Act.put, List.setIfInBounds_toArray, List.set_cons_zero, List.set_cons_succ]; try rfl)
              refine takeH (i := 12) (v := ?_) (a' := ?_) ({ dst := some 56, op := Op.move (Operand.tmp 55), type := 4, pos := "ref.go:54", after := #[{ on := 11, ground := Ground.data }, { on := 3, ground := Ground.chain }], guard := none }) rfl (by kernel_rfl) (by kernel_rfl) (by kernel_rfl) (fun _ _ _ h => h) (by rfl) ?_ (by assumption) ?_ ?_
              rotate_left 2
              · (intro w' hSw; obtain ⟨s0, s1, s2, s3⟩ := hSw; go_simp; try with_reducible rfl)
              · (simp only [Act.put, List.setIfInBounds_toArray, List.set_cons_zero, List.set_cons_succ]; try rfl)
              refine skipH (i := 13) (a' := ?_) ({ dst := some 57, op := Op.move (Operand.tmp 10), type := 3, pos := "ref.go:54", after := #[{ on := 12, ground := Ground.guard }], guard := some (12, true) }) rfl (by kernel_rfl) (by kernel_rfl) (by kernel_rfl) (fun _ _ _ h => h) (by rfl) (by assumption) ?_ ?_
              rotate_left 1
              · (simp only [Act.put, List.setIfInBounds_toArray, List.set_cons_zero, List.set_cons_succ]; try rfl)
              refine skipH (i := 14) (a' := ?_) ({ dst := some 58, op := Op.binOp BinOp.lss 3 (Operand.tmp 57) (Operand.const (Value.int IntKind.i64 0)) 3, type := 4, pos := "ref.go:54", after := #[{ on := 13, ground := Ground.data }, { on := 12, ground := Ground.guard }], guard := some (12, true) }) rfl (by kernel_rfl) (by kernel_rfl) (by kernel_rfl) (fun _ _ _ h => h) (by rfl) (by assumption) ?_ ?_
              rotate_left 1
              · (simp only [Act.put, List.setIfInBounds_toArray, List.set_cons_zero, List.set_cons_succ]; try rfl)
              refine skipH (i := 15) (a' := ?_) ({ dst := some 59, op := Op.move (Operand.tmp 58), type := 4, pos := "ref.go:54", after := #[{ on := 14, ground := Ground.data }, { on := 12, ground := Ground.chain }, { on := 12, ground := Ground.guard }], guard := some (12, true) }) rfl (by kernel_rfl) (by kernel_rfl) (by kernel_rfl) (fun _ _ _ h => h) (by rfl) (by assumption) ?_ ?_
              rotate_left 1
              · (simp only [Act.put, List.setIfInBounds_toArray, List.set_cons_zero, List.set_cons_succ]; try rfl)
              refine skipH (i := 16) (a' := ?_) ({ dst := some 60, op := Op.move (Operand.tmp 12), type := 3, pos := "ref.go:54", after := #[{ on := 15, ground := Ground.guard }], guard := some (15, false) }) rfl (by kernel_rfl) (by kernel_rfl) (by kernel_rfl) (fun _ _ _ h => h) (by rfl) (by assumption) ?_ ?_
              rotate_left 1
              · (simp only [Act.put, List.setIfInBounds_toArray, List.set_cons_zero, List.set_cons_succ]; try rfl)
              refine skipH (i := 17) (a' := ?_) ({ dst := some 61, op := Op.move (Operand.tmp 10), type := 3, pos := "ref.go:54", after := #[{ on := 15, ground := Ground.guard }], guard := some (15, false) }) rfl (by kernel_rfl) (by kernel_rfl) (by kernel_rfl) (fun _ _ _ h => h) (by rfl) (by assumption) ?_ ?_
              rotate_left 1
              · (simp only [Act.put, List.setIfInBounds_toArray, List.set_cons_zero, List.set_cons_succ]; try rfl)
              refine skipH (i := 18) (a' := ?_) ({ dst := some 62, op := Op.binOp BinOp.lss 3 (Operand.tmp 60) (Operand.tmp 61) 3, type := 4, pos := "ref.go:54", after := #[{ on := 16, ground := Ground.data }, { on := 17, ground := Ground.data }, { on := 15, ground := Ground.guard }], guard := some (15, false) }) rfl (by kernel_rfl) (by kernel_rfl) (by kernel_rfl) (fun _ _ _ h => h) (by rfl) (by assumption) ?_ ?_
              rotate_left 1
              · (simp only [Act.put, List.setIfInBounds_toArray, List.set_cons_zero, List.set_cons_succ]; try rfl)
              refine skipH (i := 19) (a' := ?_) ({ dst := some 63, op := Op.pick (Operand.tmp 59) (Operand.const (Value.bool true)) (Operand.tmp 62), type := 4, pos := "ref.go:54", after := #[{ on := 15, ground := Ground.data }, { on := 18, ground := Ground.data }, { on := 12, ground := Ground.guard }], guard := some (12, true) }) rfl (by kernel_rfl) (by kernel_rfl) (by kernel_rfl) (fun _ _ _ h => h) (by rfl) (by assumption) ?_ ?_
              rotate_left 1
              · (simp only [Act.put, List.setIfInBounds_toArray, List.set_cons_zero, List.set_cons_succ]; try rfl)
              refine takeH (i := 20) (v := .bool false) (a' := ?_) ({ dst := some 64, op := Op.pick (Operand.tmp 56) (Operand.tmp 63) (Operand.const (Value.bool false)), type := 4, pos := "ref.go:54", after := #[{ on := 12, ground := Ground.data }, { on := 19, ground := Ground.data }], guard := none }) rfl (by kernel_rfl) (by kernel_rfl) (by kernel_rfl) (fun _ _ _ h => h) (by rfl) ?_ (by assumption) ?_ ?_
              rotate_left 1
              · (intro w' hSw; obtain ⟨s0, s1, s2, s3⟩ := hSw; go_simp; try rfl)
              · (simp only [Act.put, List.setIfInBounds_toArray, List.set_cons_zero, List.set_cons_succ]; try rfl)
              refine wpAnyH_done (by kernel_rfl) ?_ _
              refine NoPanic.normal ?_
              have hnew := hid (And.intro hnx.out (below_thru hbs.out b7.out))
              clear hcell hcall x0 x1 x2 x3 cL cd b7 hnx hbs
              go_wp2_with fail
              go_roundw
              case rel => exact ⟨i + 1, _, by omega, by go_num, rfl, hnew⟩
              case measure => simp [intOf]; omega
          · have hiK : i = K := by omega
            have hat := hs.out.1
            rw [List.take_of_length_le (by rw [hK.out]; omega)] at hat
            obtain ⟨d0, hd0, dn0⟩ := hback.out v m hvV hdv'.out
            obtain ⟨k, rfl, hkm, hkf, hkl⟩ : ∃ k : Nat, z = (k : Int) ∧ k ∈ R v ∧ f (og V R (tw k)) = (m : Int) ∧ ∀ d, d ∈ R v → f (og V R (tw d)) = (m : Int) → k ≤ d := by
              rcases hat with ⟨_, q⟩ | q
              · exact absurd ((hfd.out _ m).2 dn0) (q d0 hd0)
              · exact q
            have hnd : Hid (Nd V R b v m k) := hid ⟨hkm, (hfd.out _ m).1 hkf, fun d hd dd => hkl d hd ((hfd.out _ m).2 dd)⟩
            obtain ⟨hki, hyV⟩ := hog.out v k hvV hkm
            have hk2 := hdl.out v k hvV hkm
            have hrow2 : Rw w3.heap.size wr u9 out := hro'.out.more hs.out.2
            have hown : wr.ownsRow w3.heap.size 3 1 u9 out.length (ncs out) := hrow2
            have hsz3 : w3.heap.size ≤ wr.heap.size := hbq.size
            have hol : out.length ≤ 1000 := by have := hlo'.out; omega
            have hce := hid (fun q (hq : Below w3.heap.size w3 q) => hen.out k hki q (below_thru hb3.out hq))
            have hrd2 := hid (Rd.snoc hrd'.out hnd.out)
            have hdn2 : Hid (Dn V R (-1) b (og V R (tw k)) m) := hid hnd.out.2.1
            have hcc := hid (fun q (hq : Below wr.heap.size wr q) => hcl.out q (below_thru b3.out (below_thru hbq hq)))
            obtain ⟨y, hy⟩ : ∃ y, og V R (tw k) = y := ⟨_, rfl⟩
            rw [hy] at hyV hce hrd2 hdn2
            have ba := hid (balloc wr (.cells #[.int .i64 (k : Int)] 3))
            replace hbq := hid hbq
            have t3 : decide ((i : Int) < (K : Int)) = false := decide_eq_false (by omega)
            have t4 : decide (i < K) = false := decide_eq_false (by omega)
            clear hs hat hd0 dn0 hkf hkl hki hkm hy hnd hrow2 hge
            go_wp2_with (at_builtin; refine wpList_append_own _ rfl (.tmp 66) (.tmp 68) 30 rfl w3.heap.size 3 i0 _ 1 8 Tryz.underlying30 hif hz0 hz1 hz2 rfl (by decide) _ _ _ rfl (hown.alloc _) ⟨wr.heap.size, 0, none⟩ 1 1 [.int .i64 (k : Int)] rfl rfl (one_new wr _ _) (by simp [Value.oneCell']) (by unfold maxLen; omega) (by omega) (by simp; omega) ?_; intro v5 w5 ho5 hg5 _; refine Hid.out ?_)
            have hr5 : Rw w3.heap.size w5 v5 (out ++ [k]) := by
              unfold Rw
              rw [List.length_append, ncs_append]
              exact ho5
            have hb5 := below_row (hbq.out.trans (ba.out.mono hbq.out.size)) (Nat.le_refl _) (hown.alloc (.cells #[.int .i64 (k : Int)] 3)) (Nat.le_refl _) hg5
            have hcl5 := hcl.out w5 (below_thru b3.out hb5)
            have hln5 := hid (own_sln hr5)
            clear ho5 hg5 hown ba c0 c1 cL
            obtain ⟨c0, c1⟩ := hcl5
            replace hb5 := hid hb5
            replace hr5 := hid hr5
            refine hid ?_
            go_wp2_with fail
            refine (hce.out _ hb5.out).mono ?_
            rintro x w7 ⟨rfl, b7⟩
            have hnew : Hid (Rw w3.heap.size w7 v5 (out ++ [k]) ∧ Dn V R (-1) b y m ∧ y < V ∧ (∀ r, Rd V R b m y r → Rd V R b n a ((out ++ [k]) ++ r)) ∧ (out ++ [k]).length + m = n ∧ Below w3.heap.size w3 w7) := hid ⟨hr5.out.more b7, hdn2.out, hyV, hrd2.out, by have := hlo'.out; have := hM.out; simp; omega, below_thru hb5.out b7⟩
            have hme : Hid (n - sln v5 < n - sln u9) := hid (by have := hlo'.out; have h1 := hln.out; have h2 := hln5.out; have := hM.out; simp only [List.length_append, List.length_cons, List.length_nil] at h2; omega)
            clear hce hb5 hr5 hln5 hln hlo' hrd2 hdn2 b7 c0 c1
            go_wp2_with fail
            go_roundw
            case rel => exact ⟨y, m, out ++ [k], rfl, hnew⟩
            case measure => exact hme.out

end Go.Proofs.YtghpjljnbdjmaaaGreatDoor
