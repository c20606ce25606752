/- 'sorted', walked: places in a comparer's order. -/
import Derived.Test.YtnlbpjppkfenkaaCmp9
import Derived.Test.YtnlbpjppkfenkaaLayA9
import Derived.Shelf.GgSortFunc.Compose
namespace Go.Proofs.Ytnlbpjppkfenkaa
open Go.RowKit Go.Sort Go.Shelf Go.Lib
set_option linter.unusedVariables false

theorem ics_get' {f : Nat → Nat} {n j : Nat} (h : j < n) : (ics f n)[j]? = some (.int .i64 (f j : Int)) := by simp [ics, h]
@[simp] theorem ics_length' (f : Nat → Nat) (n : Nat) : (ics f n).length = n := by simp [ics]
theorem ics_set' (n : Nat) (f : Nat → Nat) (x y : Nat) : (ics f n).set x (.int .i64 (y : Int)) = ics (fun i => if i = x then y else f i) n := by
  apply List.ext_getElem?
  intro j
  by_cases hj : j < n
  · rw [List.getElem?_set]
    by_cases e : x = j
    · subst e; rw [if_pos rfl, ics_get' (f := fun i => if i = x then y else f i) hj, if_pos rfl]; simp [hj]
    · rw [if_neg e, ics_get' hj, ics_get' hj, if_neg (show ¬ j = x from fun h => e h.symm)]
  · rw [List.getElem?_eq_none (by simp; omega), List.getElem?_eq_none (by simp; omega)]
theorem ics_made' (n : Nat) : (madeCells (Value.cells (.int .i64 0)) (n * 1)).toList = ics (fun _ => 0) n := by
  rw [Nat.mul_one]
  show (madeCells #[Value.int .i64 0] n).toList = _
  rw [toList_madeCells_one]
  apply List.ext_getElem?
  intro j
  by_cases hj : j < n
  · rw [ics_get' hj]; simp [hj]
  · rw [List.getElem?_eq_none (by simp; omega), List.getElem?_eq_none (by simp; omega)]
theorem ics_congr' {n : Nat} {f g : Nat → Nat} (h : ∀ i, i < n → f i = g i) : ics f n = ics g n := by
  unfold ics
  exact List.map_congr_left (fun i hi => by rw [h i (List.mem_range.1 hi)])

/-- What is asked of a comparer, of places below m. -/
def Cmps (g : Nat) (cb : Array Value) (m : Nat) (cf : Nat → Nat → Int) (w : World) : Prop := ∀ y, Below w.heap.size w y → ∀ a b, a < m → b < m → Calls Try.prog g (#[.int .i64 (a : Int), .int .i64 (b : Int)] ++ cb) y fun e w' => e = .returned (.int .i64 (cf a b)) ∧ ∃ q os, w' = grow (y.drewN q) os

theorem sortWorld_below {α : Type} [Inhabited α] (enc : α → Value) (w0 w : World) (B blk off n : Nat) (dk : Array α) (os : Array Obj) (hb : Below B w0 w) (hB : B ≤ w0.heap.size) (hk : B ≤ blk) : Below B w0 (sortWorld enc w blk off n dk os) := by
  refine hb.trans ⟨rfl, rfl, rfl, ?_, fun k hk2 => ?_⟩
  · show w.heap.size ≤ (grow _ _).heap.size
    rw [size_grow, size_putRow]
    exact Nat.le_add_right _ _
  · have hlt : k < w.heap.size := by have := hb.size; omega
    show (grow (putRow enc (Sort.ahead w n) blk off dk) os).heap[k]? = _
    rw [heap_grow_old _ _ (by rw [size_putRow]; exact hlt)]
    show (w.heap.modify blk _)[k]? = _
    rw [Array.getElem?_modify, if_neg (by omega)]

/-- A place, as a value. -/
def encF (m : Nat) (i : Fin m) : Value := .int .i64 (i.val : Int)

set_option maxRecDepth 100000 in
set_option maxHeartbeats 2000000 in
/-- SortFunc over a row of all places. -/
theorem sortf_ok (m g blk : Nat) (cb : Array Value) (cf : Nat → Nat → Int) (L : Nat → Nat → Prop) (w0 w : World) (hm : 0 < m) (hm2 : m ≤ 1048576) (eg : ∀ args w, (callFunc g args).run Try.prog w = .ok (.enter g args) w) (hc : Cmps g cb m cf w0) (hL : Lin m L) (hcf : ∀ a b, a < m → b < m → (cf a b < 0 ↔ L a b))
    (hb : Below w0.heap.size w0 w) (hblk : w0.heap.size ≤ blk) (hr : w.ownsRow w0.heap.size 3 1 (.slice (some ⟨blk, 0, none⟩) m m) m (ics (fun i => i) m)) :
    Calls Try.prog 29 #[.slice (some ⟨blk, 0, none⟩) m m, .func (.func g) #[] cb] w fun e w' => e = .returned (.tuple #[]) ∧ ∃ so, So m L so ∧ so.length = m ∧ (∀ (j x : Nat), so[j]? = some x → w'.cell? ⟨blk, j, none⟩ = some (.int .i64 (x : Int))) ∧ blk < w'.heap.size ∧ Below w0.heap.size w0 w' := by
  haveI : Inhabited (Fin m) := ⟨⟨0, hm⟩⟩
  have hlt : blk < w.heap.size := (hr.lt blk rfl).2
  have hds : (Array.ofFn (fun i : Fin m => i)).size = m := by simp
  have hget : ∀ j (hj : j < m), (Array.ofFn (fun i : Fin m => i))[j]! = ⟨j, hj⟩ := fun j hj => by
    rw [getElem!_pos _ _ (by simpa using hj)]
    simp
  have hH : Holds (encF m) w blk 0 (Array.ofFn (fun i : Fin m => i)) := fun j hj => by
    rw [hds] at hj
    rw [hget j hj, Nat.zero_add]
    exact ⟨by rw [hr.cellAt j (by omega)]; exact ics_get' hj, hr.frozenAt j⟩
  have hO : SWO (ltOf (fun a b : Fin m => cf a.val b.val)) := by
    have hd : ∀ a b : Fin m, ltOf (fun a b : Fin m => cf a.val b.val) a b = true ↔ L a.val b.val := fun a b => by
      unfold ltOf; rw [decide_eq_true_eq]; exact hcf a.val b.val a.isLt b.isLt
    have hn : ∀ a b : Fin m, ltOf (fun a b : Fin m => cf a.val b.val) a b = false ↔ ¬ L a.val b.val := fun a b => by
      rw [← hd a b]; simp
    refine ⟨fun x => (hn _ _).2 (hL.irr _), fun x y z h1 h2 => (hd _ _).2 (hL.tr _ _ _ ((hd _ _).1 h1) ((hd _ _).1 h2)), fun x y z h1 h2 => (hn _ _).2 (fun h3 => ?_)⟩
    by_cases e : x = y
    · subst e; exact (hn _ _).1 h2 h3
    · have := (hL.tot x.val y.val x.isLt y.isLt (fun h => e (Fin.ext h))).resolve_left ((hn _ _).1 h1)
      exact (hn _ _).1 h2 (hL.tr _ _ _ this h3)
  have hcmp : CmpLays1 Try.prog g cb (encF m) (fun a b : Fin m => cf a.val b.val) blk 0 (Array.ofFn (fun i : Fin m => i)).size w := fun q os dk hs x y =>
    hc _ (sortWorld_below (encF m) w0 w w0.heap.size blk 0 q dk os hb (Nat.le_refl _) hblk) x.val y.val x.isLt y.isLt
  have h := Any.slices_SortFunc (P := Try.prog) (ρ := Ytnlbpjppkfenkaa.sortL_ren) Ytnlbpjppkfenkaa.sortL (encF m) (fun _ => rfl) (fun a b : Fin m => cf a.val b.val) hO g cb blk 0 m (Array.ofFn (fun i : Fin m => i)) w eg hcmp hH hlt (by rw [hds]; omega)
  rw [hds] at h
  change Calls Try.prog 29 _ _ _ at h
  refine h.mono ?_
  rintro e w' ⟨rfl, d', n, os, hp, hs, rfl⟩
  have hsz : d'.size = m := by rw [hp.1, hds]
  have hperm : d'.toList.Perm (Array.ofFn (fun i : Fin m => i)).toList := by
    have h1 := hp.2.2
    have h2 : ∀ (k : Nat) (a : Array (Fin m)), a.size = k → a.extract 0 k = a := fun k a h => by subst h; simp
    rw [h2 m d' hsz, h2 m _ hds] at h1
    exact h1
  have hHs := holds_sortWorld (encF m) w blk 0 n (Array.ofFn (fun i : Fin m => i)) d' os hlt hH (by rw [hsz, hds])
  refine ⟨rfl, d'.toList.map (fun i => i.val), ⟨fun i => ?_, ?_⟩, by simp [hsz], fun j x hx => ?_, lt_sortWorld _ _ _ _ _ _ _ hlt, sortWorld_below (encF m) w0 w _ blk 0 n d' os hb (Nat.le_refl _) hblk⟩
  · rw [List.mem_map]
    constructor
    · rintro ⟨a, _, rfl⟩; exact a.isLt
    · intro hi
      refine ⟨⟨i, hi⟩, hperm.mem_iff.2 ?_, rfl⟩
      simp
  · rw [List.pairwise_map]
    refine List.pairwise_iff_getElem.2 (fun i j hi hj hij => ?_)
    simp only [Array.length_toList] at hi hj
    have h1 := hs i j (Nat.zero_le _) hij (by omega)
    rw [getElem!_pos d' j hj, getElem!_pos d' i hi] at h1
    unfold ltOf at h1
    have h2 : ¬ L (d'[j]).val (d'[i]).val := fun hl => by
      have := (hcf _ _ (d'[j]).isLt (d'[i]).isLt).2 hl
      simp at h1
      omega
    have hnd : d'.toList.Nodup := hperm.nodup_iff.2 (by
      rw [List.nodup_iff_pairwise_ne, List.pairwise_iff_getElem]
      intro a b ha hb' hab
      simp
      omega)
    have hne : d'[i] ≠ d'[j] := fun e => by
      have := (List.pairwise_iff_getElem.1 hnd) i j (by simpa using hi) (by simpa using hj) hij
      simp only [Array.getElem_toList] at this
      exact this e
    simp only [Array.getElem_toList]
    exact (hL.tot _ _ (d'[i]).isLt (d'[j]).isLt (fun e => hne (Fin.ext e))).resolve_right h2
  · rw [List.getElem?_map] at hx
    obtain ⟨f, hf, rfl⟩ := Option.map_eq_some_iff.1 hx
    have hj := (List.getElem?_eq_some_iff.1 hf).1
    simp only [Array.length_toList] at hj
    have h1 := (hHs j hj).1
    rw [Nat.zero_add, getElem!_pos d' j hj] at h1
    rw [h1]
    simp only [Array.getElem?_toList] at hf
    rw [Array.getElem?_eq_getElem hj] at hf
    rw [← Option.some.inj hf]
    rfl

set_option maxRecDepth 100000 in
set_option maxHeartbeats 2000000 in
theorem sorted_ok (m g : Nat) (cb : Array Value) (cf : Nat → Nat → Int) (L : Nat → Nat → Prop) (w : World) (hm2 : m ≤ 1048576) (eg : ∀ args w, (callFunc g args).run Try.prog w = .ok (.enter g args) w) (hc : Cmps g cb m cf w) (hL : Lin m L) (hcf : ∀ a b, a < m → b < m → (cf a b < 0 ↔ L a b)) :
    Calls Try.prog 21 #[.int .i64 (m : Int), .func (.func g) #[] cb] w fun e w' => ∃ blk so, e = .returned (.slice (some ⟨blk, 0, none⟩) m m) ∧ w.heap.size ≤ blk ∧ blk < w'.heap.size ∧ So m L so ∧ so.length = m ∧ (∀ (j x : Nat), so[j]? = some x → w'.cell? ⟨blk, j, none⟩ = some (.int .i64 (x : Int))) ∧ Below w.heap.size w w' := by
  obtain ⟨i0, hif, hz0, hz1, hz2⟩ := info_parts infoInt
  have hsort : Hid (∀ y blk, Below w.heap.size w y → w.heap.size ≤ blk → y.ownsRow w.heap.size 3 1 (.slice (some ⟨blk, 0, none⟩) m m) m (ics (fun i => i) m) → Calls Try.prog 29 #[.slice (some ⟨blk, 0, none⟩) m m, .func (.func g) #[] cb] y fun e w' => e = .returned (.tuple #[]) ∧ ∃ so, So m L so ∧ so.length = m ∧ (∀ (j x : Nat), so[j]? = some x → w'.cell? ⟨blk, j, none⟩ = some (.int .i64 (x : Int))) ∧ blk < w'.heap.size ∧ Below w.heap.size w w') := by
    intro y blk hy hblk hr
    by_cases hm : 0 < m
    · exact sortf_ok m g blk cb cf L w y hm hm2 eg hc hL hcf hy hblk hr
    · obtain rfl : m = 0 := by omega
      have h := AnyF.slices_SortFunc_none (P := Try.prog) (ρ := Ytnlbpjppkfenkaa.sortL_ren) { Ytnlbpjppkfenkaa.sortL with } (some ⟨blk, 0, none⟩) 0 (.func (.func g) #[] cb) y
      change Calls Try.prog 29 _ _ _ at h
      refine h.mono ?_
      rintro e w' ⟨rfl, rfl⟩
      exact ⟨rfl, [], ⟨fun i => by simp, List.Pairwise.nil⟩, rfl, fun j x hx => by simp at hx, (hr.lt blk rfl).2, hy⟩
  clear eg hc hL hcf
  go_enter Try.func21, Try.ntmps21
  go_wp2_with (at_make; refine wpList_make_full _ rfl (.tmp 7) (.tmp 7) 23 rfl w.heap.size 3 i0 (.int .i64 0) 1 Try.underlying23 hif hz0 hz1 .i64 .i64 _ _ m rfl rfl rfl rfl (by rw [hz2]; omega) (by unfold maxLen; omega) (Nat.le_refl _) ?_; intro w1 hown hgrow)
  have hst : Hid (w1.ownsRow w.heap.size 3 1 (.slice (some ⟨w.heap.size, 0, none⟩) m m) m (ics (fun i => if i < 0 then i else 0) m) ∧ Below w.heap.size w w1) := by
    rw [ics_made'] at hown
    exact ⟨hown, (Below.refl _ _).grown hgrow (Nat.le_refl _) (by simp)⟩
  clear hown hgrow
  go_wp2_with fail
  go_loopw [6, 11] (fun _ u wr => ∃ j : Nat, j ≤ m ∧ u = .int .i64 (j : Int) ∧ Hid (wr.ownsRow w.heap.size 3 1 (.slice (some ⟨w.heap.size, 0, none⟩) m m) m (ics (fun i => if i < j then i else 0) m) ∧ Below w.heap.size w wr))
    (fun _ u _ => m - (intOf u).toNat)
  case atStart => exact ⟨0, by omega, by go_num, hst⟩
  case round =>
    obtain ⟨j, hj, rfl, hs⟩ := hrel
    clear hst
    rcases Nat.lt_or_ge j m with hlt | hge
    · have hf : wr.frozen? ⟨w.heap.size, j, none⟩ = false := hs.out.1.frozenAt j
      have hcj : wr.cell? ⟨w.heap.size, j, none⟩ = some (.int .i64 ((if j < j then j else 0 : Nat) : Int)) := by rw [hs.out.1.cellAt j (by omega)]; exact ics_get' hlt
      have hnew : Hid ((wr.setCell ⟨w.heap.size, j, none⟩ (.int .i64 (j : Int))).ownsRow w.heap.size 3 1 (.slice (some ⟨w.heap.size, 0, none⟩) m m) m (ics (fun i => if i < j + 1 then i else 0) m) ∧ Below w.heap.size w (wr.setCell ⟨w.heap.size, j, none⟩ (.int .i64 (j : Int)))) := by
        obtain ⟨s1, s2⟩ := hs.out.1.stored j (.int .i64 (j : Int))
        rw [ics_set', ics_congr' (g := fun i => if i < j + 1 then i else 0) (fun i _ => by
          by_cases e1 : i = j
          · rw [if_pos e1, if_pos (by omega)]; exact e1.symm
          · rw [if_neg e1]
            by_cases e2 : i < j
            · rw [if_pos e2, if_pos (by omega)]
            · rw [if_neg e2, if_neg (by omega)])] at s1
        exact ⟨s1, below_row hs.out.2 (Nat.le_refl _) hs.out.1 (Nat.le_refl _) s2⟩
      have i1 : (0 : Int) ≤ (j : Int) := by omega
      have i2 : (j : Int) < (m : Int) := by omega
      clear hs
      go_wp2_with fail
      go_roundw
      case rel => exact ⟨j + 1, by omega, by go_num, hnew⟩
      case measure => simp [intOf]; omega
    · obtain rfl : j = m := by omega
      have hrow : Hid (wr.ownsRow w.heap.size 3 1 (.slice (some ⟨w.heap.size, 0, none⟩) j j) j (ics (fun i => i) j)) := by
        have := hs.out.1
        rw [ics_congr' (g := fun i => i) (fun i hi => if_pos hi)] at this
        exact this
      have hcall := hid (hsort.out wr w.heap.size hs.out.2 (Nat.le_refl _) hrow.out)
      clear hs hrow hsort
      go_wp2_with fail
      refine hcall.out.mono ?_
      rintro e w3 ⟨rfl, so, h1, h2, h3, h4, h5⟩
      have fin := hid (And.intro h1 (And.intro h2 (And.intro h3 (And.intro h4 h5))))
      clear h1 h2 h3 h4 h5
      go_wp2_with fail
      go_ret
      obtain ⟨h1, h2, h3, h4, h5⟩ := fin.out
      exact ⟨_, so, rfl, Nat.le_refl _, h4, h1, h2, h3, h5⟩

end Go.Proofs.Ytnlbpjppkfenkaa
