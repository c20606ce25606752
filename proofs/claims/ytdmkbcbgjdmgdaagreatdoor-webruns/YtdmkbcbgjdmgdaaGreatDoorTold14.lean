/- 'told' of the laws, walked: all that is told of two items is as the document says. -/
import Derived.Test.YtdmkbcbgjdmgdaaGreatDoorStep14
import Derived.Test.YtdmkbcbgjdmgdaaGreatDoorBwn
namespace Go.Proofs.YtdmkbcbgjdmgdaaGreatDoor
open Go.RowKit
set_option linter.unusedVariables false

/-- A block of four cells. -/
theorem blk4 {w : World} {g : Nat} {t : TypeId} {a b c d : Value} (h : w.heap[g]? = some (.cells #[a, b, c, d] t (0, 0))) : w.cell? ⟨g, 0, none⟩ = some a ∧ w.cell? ⟨g, 1, none⟩ = some b ∧ w.cell? ⟨g, 2, none⟩ = some c ∧ w.cell? ⟨g, 3, none⟩ = some d := by
  refine ⟨?_, ?_, ?_, ?_⟩ <;> (unfold World.cell?; rw [h]; simp)

theorem KeepW.web {a b : World} (h : KeepW a b) {g : Nat} {cs : Array Value} {fr : Nat × Nat} (hg : a.heap[g]? = some (.cells cs 32 fr)) : b.heap[g]? = some (.cells cs 32 fr) := h g cs _ fr hg (by decide) (by decide) (by decide) (by decide) (by decide) (by decide)
theorem Below.web {a b : World} (h : Below a.heap.size a b) {g : Nat} {o : Obj} (hg : a.heap[g]? = some o) : b.heap[g]? = some o := (h.block g (Array.getElem?_eq_some_iff.1 hg).1).trans hg

/-- The least key, told by the list of ties. -/
theorem wke_doc {tt : Nat → Option (Nat × Nat)} {ky : Nat → Int} {ts : List Wd.Ti} (h : Ts tt ky ts) {r : List Nat} (hr : ∀ k, k ∈ r → k < ts.length) {z : Int} (hz : Wd.WkIs (r.map (Wd.tieAt ts)) z) : WkE ky (r.map (fun k => (Wd.tieAt ts k).e)) z := by
  rcases hz with ⟨q, rfl⟩ | ⟨j, t, h1, h2, h3, h4⟩
  · left
    cases r with
    | nil => exact ⟨rfl, rfl⟩
    | cons _ _ => cases q
  · right
    rw [List.getElem?_map] at h1
    obtain ⟨k, hk, rfl⟩ := Option.map_eq_some_iff.1 h1
    have hkey : ∀ k, k ∈ r → ky (Wd.tieAt ts k).e = (Wd.tieAt ts k).key := fun k hk => by
      obtain ⟨t, _, q, _, q2⟩ := h.at (hr k hk)
      rw [q]; exact q2
    have hjl := (List.getElem?_eq_some_iff.1 hk).1
    have hkr := List.mem_of_getElem? hk
    refine ⟨(r.take j).map (fun k => (Wd.tieAt ts k).e), (Wd.tieAt ts k).e, (r.drop (j + 1)).map (fun k => (Wd.tieAt ts k).e), ?_, h2, fun e' he' => ?_, fun e' he' => ?_⟩
    · have e1 : r = r.take j ++ k :: r.drop (j + 1) := by
        have hd := List.drop_eq_getElem_cons hjl
        rw [(List.getElem?_eq_some_iff.1 hk).2] at hd
        rw [← hd, List.take_append_drop]
      exact (congrArg (List.map (fun k => (Wd.tieAt ts k).e)) e1).trans (by rw [List.map_append, List.map_cons])
    · obtain ⟨k', q1, rfl⟩ := List.mem_map.1 he'
      rw [hkey k hkr, hkey k' q1]
      exact h3 _ (List.mem_map.2 ⟨k', q1, rfl⟩)
    · obtain ⟨k', q1, rfl⟩ := List.mem_map.1 he'
      obtain ⟨i, hi⟩ := List.mem_iff_getElem?.1 q1
      have hil := (List.getElem?_eq_some_iff.1 hi).1
      rw [List.length_take] at hil
      rw [List.getElem?_take, if_pos (by omega)] at hi
      have q2 := List.mem_of_getElem? hi
      rw [hkey k hkr, hkey k' q2]
      exact h4 i _ (by omega) (by rw [List.getElem?_map, hi]; rfl)

section
variable {wb n m : Nat} {w w0 w' : World} {sq : Nat → List Nat} {tt : Nat → Option (Nat × Nat)} {ky : Nat → Int} {ls : List (List Nat)} {ts : List Wd.Ti} {xv : Value}

/-- Weakest, in both. -/
theorem weak_step {lo : Nat} {tv : Value} (h : WQ lo w wb n m sq tt ky w0) (hR : ∃ fb fcap, xv = .agg #[.int .i64 (n : Int), .int .i64 (m : Int), .slice (some ⟨fb, 0, none⟩) ls.length fcap, tv] ∧ Rf w0 (.slice (some ⟨fb, 0, none⟩) ls.length fcap) ls) (t : Tie n ls sq) (hT : Wd.TV w0 tv ts) (hts : Ts tt ky ts) (hn : n ≤ 1000) (hm : m ≤ 1000) (a b : Int) :
    ∃ z er : Int, ∃ B : Bool, (∀ y, Below w0.heap.size w0 y ∨ KeepD w0 y → Calls Tryz.prog 37 #[xv, .int .i64 a, .int .i64 b] y fun x w' => x = .returned (.tuple #[.int .i64 z, .int .i64 er]) ∧ Below y.heap.size y w') ∧
      (∀ y, WQ lo w wb n m sq tt ky y → Calls Tryz.prog 17 #[.pointer (some ⟨wb, 0, none⟩), .int .i64 a, .int .i64 b] y fun e w' => e = .returned (.tuple #[.int .i64 z, erV er]) ∧ WQ lo w wb n m sq tt ky w' ∧ KeepW y w') ∧
      (∀ y, WQ lo w wb n m sq tt ky y → Calls Tryz.prog 16 #[.pointer (some ⟨wb, 0, none⟩), .int .i64 a, .int .i64 b] y fun e w' => e = .returned (.tuple #[.bool B, erV (if er = 12 then 12 else 0)]) ∧ WQ lo w wb n m sq tt ky w' ∧ KeepW y w') ∧
      ((er = 12 ∧ ¬ Wd.InW n a b) ∨ (Wd.InW n a b ∧ ((er = 0 ∧ B = true) ∨ (er = 21 ∧ B = false)))) := by
  have p := h.part
  obtain ⟨fb, fcap, rfl, hR⟩ := hR
  have hF := t.len
  have htl := h.few hts
  have hdoc : ∀ y, Below w0.heap.size w0 y ∨ KeepD w0 y → Calls Tryz.prog 37 #[.agg #[.int .i64 (n : Int), .int .i64 (m : Int), .slice (some ⟨fb, 0, none⟩) ls.length fcap, tv], .int .i64 a, .int .i64 b] y fun x w' => ∃ z er, x = .returned (.tuple #[.int .i64 z, .int .i64 er]) ∧ Wd.WeIs n ts (fiD ls sq) a b z er ∧ Below y.heap.size y w' := fun y hy => by
    have hk : KeepD w0 y := hy.elim KeepD.ofBelow id
    exact Wd.rweak14_ok n m (some ⟨fb, 0, none⟩) ls.length fcap tv ts (fiD ls sq) (fun d => d < n) a b y (tv_keepD hT hk) (by omega) (by omega) (h.itD hts) (fun d hd => fiD_lt t hd) (fun d hd => by omega) (doc_find (hR.keepD hk) t p hn)
  by_cases hi : Wd.InW n a b
  · obtain ⟨A, rfl, hA⟩ := nat_of ⟨hi.1, hi.2.1⟩
    obtain ⟨B, rfl, hB⟩ := nat_of ⟨hi.2.2.1, hi.2.2.2⟩
    by_cases hl : Lkd n sq tt A B
    · obtain ⟨r0, l0, k0⟩ := (h.doc_lnk t hts hi).2 hl
      obtain ⟨r1, l1, k1, k2⟩ := k0.erase
      -- the least of the road, whichever
      have hex : ∃ z, Wd.WkIs (r1.map (Wd.tieAt ts)) z ∧ WkE ky (r1.map (fun k => (Wd.tieAt ts k).e)) z := by
        have hlk : ∀ (l : List Wd.Ti), ∃ z, Wd.WkIs l z := fun l => by
          cases l with
          | nil => exact ⟨-1, .inl ⟨rfl, rfl⟩⟩
          | cons c l =>
            have key : ∀ i, 1 ≤ i → i ≤ (c :: l).length → ∃ j : Nat, Wd.Lk (c :: l) i (j : Int) := by
              intro i
              induction i with
              | zero => intro h; omega
              | succ i ih =>
                intro _ hil
                by_cases h1 : i = 0
                · subst h1; exact ⟨0, Wd.Lk.first rfl⟩
                · obtain ⟨j, hj⟩ := ih (by omega) (by omega)
                  have hj' := hj
                  rcases hj with ⟨q, _⟩ | ⟨j', t, e1, e2, e3, _⟩
                  · omega
                  · obtain rfl : j = j' := by omega
                    obtain ⟨u, hu⟩ : ∃ u, (c :: l)[i]? = some u := ⟨_, List.getElem?_eq_getElem (by omega)⟩
                    by_cases q : u.key < t.key
                    · exact ⟨i, hj'.less e3 hu q⟩
                    · exact ⟨j, hj'.same e3 hu q⟩
            obtain ⟨j, hj⟩ := key (c :: l).length (by simp) (Nat.le_refl _)
            rcases hj with ⟨q, _⟩ | ⟨j', t, e1, e2, e3, e4, e5⟩
            · simp at q
            · refine ⟨(t.e : Int), .inr ⟨j', t, e3, rfl, fun t' ht' => ?_, e5⟩⟩
              obtain ⟨i, hi⟩ := List.mem_iff_getElem?.1 ht'
              exact e4 i t' (List.getElem?_eq_some_iff.1 hi).1 hi
        obtain ⟨z, hz⟩ := hlk (r1.map (Wd.tieAt ts))
        exact ⟨z, hz, wke_doc hts k1.tied hz⟩
      obtain ⟨z, hz1, hz2⟩ := hex
      have hu := fun r l k hn => h.uniq (fiD_lb t p) hA hB (r := r) (ls := l) k hn (fr_doc hts k1) k2
      refine ⟨z, 0, true, fun y hy => ?_, fun y hy => ?_, fun y hy => ?_, .inr ⟨hi, .inl ⟨rfl, rfl⟩⟩⟩
      · refine (hdoc y hy).mono ?_
        rintro x w' ⟨z', er', rfl, hw, hb'⟩
        rcases hw with ⟨q, _⟩ | ⟨_, q, _⟩ | ⟨_, rfl, r, l, q1, q2, q3⟩
        · exact absurd hi q
        · exact absurd ⟨_, _, k1⟩ q
        · have e1 := wke_doc hts q1.tied q3
          rw [hu _ _ (fr_doc hts q1) q2] at e1
          rw [e1.uniq hz2]
          exact ⟨rfl, hb'⟩
      · refine (hy.weakY A B hA hB hl).mono ?_
        rintro e w' ⟨z', hp, rfl, g, k⟩
        obtain ⟨r, l, q1, q2, q3⟩ := hp _ (fiD_lb t p)
        rw [hu _ _ q1 q2] at q3
        rw [q3.uniq hz2, erV_0]
        exact ⟨rfl, g, k⟩
      · refine (hy.linked A B hA hB true ⟨fun _ => hl, fun _ => rfl⟩).mono ?_
        rintro e w' ⟨rfl, g, k⟩
        exact ⟨rfl, g, k⟩
    · refine ⟨0, 21, false, fun y hy => ?_, fun y hy => ?_, fun y hy => ?_, .inr ⟨hi, .inr ⟨rfl, rfl⟩⟩⟩
      · refine (hdoc y hy).mono ?_
        rintro x w' ⟨z', er', rfl, hw, hb'⟩
        rcases hw with ⟨q, _⟩ | ⟨_, q, rfl, rfl⟩ | ⟨_, rfl, r, l, q1, q2, q3⟩
        · exact absurd hi q
        · exact ⟨rfl, hb'⟩
        · exact absurd ((h.doc_lnk t hts hi).1 ⟨_, _, q1⟩) hl
      · exact hy.weakN A B hA hB hl
      · refine (hy.linked A B hA hB false ⟨fun q => by (cases q), fun q => absurd q hl⟩).mono ?_
        rintro e w' ⟨rfl, g, k⟩
        exact ⟨rfl, g, k⟩
  · have hx : ¬ ((0 ≤ a ∧ a < (n : Int)) ∧ (0 ≤ b ∧ b < (n : Int))) := fun ⟨⟨q1, q2⟩, q3, q4⟩ => hi ⟨q1, q2, q3, q4⟩
    refine ⟨0, 12, false, fun y hy => ?_, fun y hy => hy.weak_bad a b hx, fun y hy => hy.linked_bad a b hx, .inl ⟨rfl, hi⟩⟩
    refine (hdoc y hy).mono ?_
    rintro x w' ⟨z', er', rfl, hw, hb'⟩
    rcases hw with ⟨_, rfl, rfl⟩ | ⟨q, _⟩ | ⟨q, _⟩
    · exact ⟨rfl, hb'⟩
    · exact absurd q hi
    · exact absurd q hi
end
end Go.Proofs.YtdmkbcbgjdmgdaaGreatDoor
