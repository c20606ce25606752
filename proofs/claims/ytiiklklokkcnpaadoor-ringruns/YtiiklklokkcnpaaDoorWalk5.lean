/- A cycle from an item on: 'Walk', walked. -/
import Derived.Test.YtiiklklokkcnpaaDoorRing6
import Derived.Test.YtiiklklokkcnpaaDoorCat5
import Derived.Deep.RegionHeld3
namespace Go.Proofs.YtiiklklokkcnpaaDoor
open Go.RowKit
set_option linter.unusedVariables false

section
variable {lo rb fb n : Nat} {w w0 : World} {v : Nat → Int} {seq : Nat → List Nat}

theorem Rw.sl {w : World} {u : Value} {l : List Nat} (h : Rw w u l) (hl : l ≠ []) (M : Nat) (hM : l.length = M) : ∃ g cap, u = .slice (some ⟨g, 0, none⟩) M cap ∧ M ≤ cap ∧ cap ≤ maxLen ∧ ∀ (j d : Nat), l[j]? = some d → w.cell? ⟨g, j, none⟩ = some (itm d) := by
  subst hM
  obtain ⟨base, ho⟩ := h
  rcases ho.2 with ⟨rfl, hn⟩ | ⟨g, cap, cur, rfl, _, _, h1, h2, _⟩
  · exact absurd (List.eq_nil_of_length_eq_zero hn) hl
  · refine ⟨g, cap, rfl, h1, h2, fun j d hd => ?_⟩
    have hj := (List.getElem?_eq_some_iff.1 hd).1
    rw [ho.cellAt j (by simpa using hj)]
    simp [hd]

set_option maxRecDepth 100000 in
set_option maxHeartbeats 1000000 in
theorem RG.walkN (h : RG lo w rb fb n v seq w0) (x : Nat) (hx : x < n) :
    Calls Tryd.prog 22 #[.pointer (some ⟨rb, 0, none⟩), .int .i64 (x : Int)] w0 fun e w' => ∃ u, e = .returned (.tuple #[u, .nilIface]) ∧ Rn w0 w' u (rot (seq (x + 1)) (x + 1)) ∧ RG lo w rb fb n v seq w' ∧ Keep w0 w' := by
  have p := h.fs.part
  have hk := hid (kept_ok h.rb)
  have hl := hid (h.fs.list x hx)
  have h := hid h
  obtain ⟨A, B, hAB, hA⟩ := List.eq_append_cons_of_mem (p.self (x + 1) (by omega))
  have hrot : Hid (rot (seq (x + 1)) (x + 1) = (x + 1) :: B ++ A) := hid (by rw [hAB, rot_split hA]; rfl)
  have hlen := p.len (x + 1) (by omega)
  have hnz : ∀ z ∈ A ++ (x + 1) :: B, z ≠ 0 := fun z hz => (p.mem (x + 1) z (by omega) (by rw [hAB]; exact hz)).2
  rw [hAB] at hlen
  have p := hid p
  have hABh := hid hAB
  clear hAB
  go_enter Tryd.func22, Tryd.ntmps22
  go_wp2_with fail
  refine hk.out.mono ?_
  rintro e w1 ⟨rfl, rfl⟩
  go_wp2_with fail
  refine hl.out.mono ?_
  rintro e w2 ⟨u, rfl, hr, h2, k2⟩
  rw [hABh.out] at hr
  obtain ⟨M, hM⟩ : ∃ M, (A ++ (x + 1) :: B).length = M := ⟨_, rfl⟩
  obtain ⟨g, cap, rfl, hc1, hc2, hcell⟩ := hr.sl (by simp) M hM
  rw [hM] at hlen
  have g2 := hid (h.out.after k2 h2)
  have k2 := hid k2
  have hix := hid (index_ok g cap x A B w2 (fun j d hd => by rw [hcell j (d + 1) hd]; unfold itm; congr 2; omega) hnz hA M hM (by omega))
  have hM2 : M = A.length + (B.length + 1) := by rw [← hM]; simp
  obtain ⟨na, hna⟩ : ∃ k, A.length = k := ⟨_, rfl⟩
  rw [hna] at hix hM2
  have s1 : Sl w2 ⟨g, na, none⟩ ((x + 1) :: B) := fun j u hu => by
    rw [List.getElem?_map] at hu
    obtain ⟨d, hd, rfl⟩ := Option.map_eq_some_iff.1 hu
    rw [show (⟨g, na, none⟩ : Addr).add j = ⟨g, na + j, none⟩ from by unfold Addr.add; split <;> simp_all]
    exact hcell (na + j) d (by rw [List.getElem?_append_right (by omega), hna, Nat.add_sub_cancel_left]; exact hd)
  have s2 : Sl w2 ⟨g, 0, none⟩ A := fun j u hu => by
    rw [List.getElem?_map] at hu
    obtain ⟨d, hd, rfl⟩ := Option.map_eq_some_iff.1 hu
    rw [show (⟨g, 0, none⟩ : Addr).add j = ⟨g, j, none⟩ from by unfold Addr.add; split <;> simp_all]
    exact hcell j d (by rw [List.getElem?_append_left (List.getElem?_eq_some_iff.1 hd).1]; exact hd)
  have hc3 : cap ≤ 9223372036854775807 := by unfold maxLen at hc2; omega
  have hcat : Hid (∀ y, y.heap = (w2.alloc (.cells #[.slice (some ⟨g, na, none⟩) (M - na) (cap - na), .slice (some ⟨g, 0, none⟩) na cap] 47)).heap → y.tape = w2.tape → y.os = w2.os → y.output = w2.output → Calls Tryd.prog 40 #[.slice (some ⟨w2.heap.size, 0, none⟩) 2 2] y fun e w' => ∃ u, e = .returned u ∧ (w'.ownsRow (w2.heap.size + 1) 3 1 u (rot (seq (x + 1)) (x + 1)).length ((rot (seq (x + 1)) (x + 1)).map itm)) ∧ Below w2.heap.size w2 w') := hid (fun y hy ht ho hou => by
    have hb : Below w2.heap.size w2 y := ⟨ho, ht, hou, by rw [hy]; simp, fun k hk => by rw [hy]; exact Below.heap_alloc _ _ _ hk⟩
    refine (concat_ok w2.heap.size ⟨g, na, none⟩ ⟨g, 0, none⟩ (cap - na) cap ((x + 1) :: B) A y ?_ (s1.below hb) (s2.below hb) (by simp; omega) (by simp; omega)).mono ?_
    · rw [hy, heap_alloc_new]
      simp only [List.length_cons, hna]
      rw [show M - na = B.length + 1 by omega]
    · rintro e w' ⟨u, rfl, ho', hb'⟩
      have hsz : y.heap.size = w2.heap.size + 1 := by rw [hy]; simp
      rw [hsz] at ho'
      exact ⟨u, rfl, by rw [hrot.out]; exact ho', hb.trans (hb'.mono (by omega))⟩)
  have hcat := hid (hcat.out ((w2.alloc (.cells #[.slice (some ⟨g, na, none⟩) (M - na) (cap - na), .slice (some ⟨g, 0, none⟩) na cap] 47)).drew) rfl rfl rfl rfl)
  have i1 : (0 : Int) ≤ (na : Int) := by omega
  have i2 : (na : Int) ≤ (M : Int) := by omega
  have i3 : (na : Int) ≤ (cap : Int) := by omega
  have i4 : cap ≠ na := by omega
  clear hk hl h hr h2 hcell s1 s2 hM hnz hA hna hM2
  go_wp2_with fail
  refine hix.out.mono ?_
  rintro e w3 ⟨rfl, rfl⟩
  clear hix
  go_wp2_with fail
  go_region_held3 (fun w' => True) (first | exact True.intro | assumption | go_keep) ((go_at_call 40; refine hcat.out.mono ?_; rintro e w4 ⟨u4, rfl, ho4, b4⟩; have fin := hid (And.intro ho4 b4); clear ho4 b4))
  all_goals
    go_wp2_with fail
    go_ret2
    refine ⟨u4, rfl, ⟨w2.heap.size + 1, fun k cs t fr hk e1 e2 => ?_, fin.out.1⟩, g2.out.more fin.out.2, k2.out.trans (Keep.ofBelow fin.out.2)⟩
    have := (Array.getElem?_eq_some_iff.1 (k2.out k cs t fr hk e1 e2)).1
    omega

theorem RG.walk (h : RG lo w rb fb n v seq w0) (x : Nat) (hx : x < n) :
    Calls Tryd.prog 22 #[.pointer (some ⟨rb, 0, none⟩), .int .i64 (x : Int)] w0 fun e w' => ∃ u, e = .returned (.tuple #[u, .nilIface]) ∧ Rw w' u (rot (seq (x + 1)) (x + 1)) ∧ RG lo w rb fb n v seq w' ∧ Keep w0 w' := by
  refine (h.walkN x hx).mono ?_
  rintro e w' ⟨u, rfl, ⟨base, _, hr⟩, h1, k1⟩
  exact ⟨u, rfl, ⟨base, hr⟩, h1, k1⟩

set_option maxRecDepth 100000 in
set_option maxHeartbeats 1000000 in
theorem RG.walk_bad (h : RG lo w rb fb n v seq w0) (x : Int) (hx : ¬ (0 ≤ x ∧ x < (n : Int))) :
    Calls Tryd.prog 22 #[.pointer (some ⟨rb, 0, none⟩), .int .i64 x] w0 fun e w' => e = .returned (.tuple #[.slice none 0 0, (.iface 62 (.int .i64 12))]) ∧ RG lo w rb fb n v seq w' ∧ Keep w0 w' := by
  have hk := hid (kept_ok h.rb)
  have hs := hid (h.fs.list_bad x hx)
  have h := hid h
  clear hx
  go_enter Tryd.func22, Tryd.ntmps22
  go_wp2_with fail
  refine hk.out.mono ?_
  rintro e w1 ⟨rfl, rfl⟩
  go_wp2_with fail
  refine hs.out.mono ?_
  rintro e w2 ⟨rfl, h2, k2⟩
  have fin := hid (And.intro (h.out.after k2 h2) k2)
  clear hs h2 k2
  go_wp2_with fail
  go_ret2
  exact ⟨rfl, fin.out⟩
end

end Go.Proofs.YtiiklklokkcnpaaDoor
