/- 'first', 'Least' and 'Most', walked. -/
import Derived.Test.YtnkgpjjlgbggcaaDoorLeast6
namespace Go.Proofs.YtnkgpjjlgbggcaaDoor
open Go.RowKit
set_option linter.unusedVariables false

/-- The values of a list are numbers of 64 bits. -/
def In64 (v : Nat → Int) (l : List Nat) : Prop := ∀ z, z ∈ l → -9223372036854775808 ≤ v z ∧ v z ≤ 9223372036854775807

theorem lowV_mem (v : Nat → Int) : ∀ (l : List Nat) (z : Nat), z ∈ l → lowV v l ≤ v z
  | x :: l, z, hz => by
    simp only [lowV]
    rcases List.mem_cons.1 hz with rfl | hz
    · omega
    · have := lowV_mem v l z hz; omega
theorem highV_mem (v : Nat → Int) : ∀ (l : List Nat) (z : Nat), z ∈ l → v z ≤ highV v l
  | x :: l, z, hz => by
    simp only [highV]
    rcases List.mem_cons.1 hz with rfl | hz
    · omega
    · have := highV_mem v l z hz; omega
theorem lowV_att (v : Nat → Int) : ∀ l : List Nat, l ≠ [] → In64 v l → ∃ z, z ∈ l ∧ v z = lowV v l
  | [x], _, h => ⟨x, by simp, by have := h x (by simp); simp only [lowV]; omega⟩
  | x :: y :: l, _, h => by
    obtain ⟨z, hz, e⟩ := lowV_att v (y :: l) (by simp) (fun z hz => h z (List.mem_cons_of_mem _ hz))
    rcases Int.lt_or_le (lowV v (y :: l)) (v x) with hlt | hge
    · exact ⟨z, List.mem_cons_of_mem _ hz, by rw [show lowV v (x :: y :: l) = min (v x) (lowV v (y :: l)) from rfl]; omega⟩
    · exact ⟨x, by simp, by rw [show lowV v (x :: y :: l) = min (v x) (lowV v (y :: l)) from rfl]; omega⟩
theorem highV_att (v : Nat → Int) : ∀ l : List Nat, l ≠ [] → In64 v l → ∃ z, z ∈ l ∧ v z = highV v l
  | [x], _, h => ⟨x, by simp, by have := h x (by simp); simp only [highV]; omega⟩
  | x :: y :: l, _, h => by
    obtain ⟨z, hz, e⟩ := highV_att v (y :: l) (by simp) (fun z hz => h z (List.mem_cons_of_mem _ hz))
    rcases Int.lt_or_le (v x) (highV v (y :: l)) with hlt | hge
    · exact ⟨z, List.mem_cons_of_mem _ hz, by rw [show highV v (x :: y :: l) = max (v x) (highV v (y :: l)) from rfl]; omega⟩
    · exact ⟨x, by simp, by rw [show highV v (x :: y :: l) = max (v x) (highV v (y :: l)) from rfl]; omega⟩
theorem low_at {v : Nat → Int} {S : List Nat} (h : In64 v S) (l : List Nat) (hl : l ≠ []) (hs : ∀ z, z ∈ l → z ∈ S) : lowV v l = lowV v S ↔ ∃ z, z ∈ l ∧ v z = lowV v S := by
  obtain ⟨y, hy, ey⟩ := lowV_att v l hl (fun z hz => h z (hs z hz))
  constructor
  · intro e; exact ⟨y, hy, by rw [ey, e]⟩
  · rintro ⟨z, hz, ez⟩
    have h1 := lowV_mem v l z hz
    have h2 := lowV_mem v S y (hs y hy)
    omega
theorem high_at {v : Nat → Int} {S : List Nat} (h : In64 v S) (l : List Nat) (hl : l ≠ []) (hs : ∀ z, z ∈ l → z ∈ S) : highV v l = highV v S ↔ ∃ z, z ∈ l ∧ v z = highV v S := by
  obtain ⟨y, hy, ey⟩ := highV_att v l hl (fun z hz => h z (hs z hz))
  constructor
  · intro e; exact ⟨y, hy, by rw [ey, e]⟩
  · rintro ⟨z, hz, ez⟩
    have h1 := highV_mem v l z hz
    have h2 := highV_mem v S y (hs y hy)
    omega

section
variable {lo fb n : Nat} {w w0 : World} {v : Nat → Int} {adj : Nat → Nat → Prop}

set_option maxRecDepth 100000 in
set_option maxHeartbeats 2000000 in
theorem FS.firstL (h : FS lo w fb n v adj w0) (x y : Nat) (hx : x < n) (hy : y < n) (l : List Nat) (hl : Rd adj (x + 1) (y + 1) l) (hv : In64 v l) :
    Calls Tryd.prog 46 #[.pointer (some ⟨fb, 0, none⟩), .int .i64 (x : Int), .int .i64 (y : Int), .func (.func 47) #[] #[]] w0 fun e w' => ∃ d : Nat, (∃ A B, l = A ++ (d + 1) :: B ∧ v (d + 1) = lowV v l ∧ ∀ z, z ∈ A → v z ≠ lowV v l) ∧ e = .returned (.tuple #[.int .i64 (d : Int), .nilIface]) ∧ FS lo w fb n v adj w' ∧ Keep w0 w' := by
  obtain ⟨wa, hwa⟩ : ∃ wa, (w0.alloc (.cells #[.pointer (some ⟨fb, 0, none⟩)] 24)).alloc (.cells #[.func (.func 47) #[] #[]] 90) = wa := ⟨_, rfl⟩
  have ha : FS lo w fb n v adj wa := by rw [← hwa]; exact (h.alloc _).alloc _
  have ka : Keep w0 wa := by rw [← hwa]; exact ((Keep.refl w0).alloc _).alloc _
  have hfa : FBox wa w0.heap.size fb := by rw [← hwa]; exact FBox.keep (heap_alloc_new w0 _) ((Keep.refl _).alloc _)
  have hba : BBox wa (w0.heap.size + 1) 47 := by
    rw [← hwa]
    have := heap_alloc_new (w0.alloc (.cells #[.pointer (some ⟨fb, 0, none⟩)] 24)) (.cells #[.func (.func 47) #[] #[]] 90)
    rw [show (w0.alloc (.cells #[.pointer (some ⟨fb, 0, none⟩)] 24)).heap.size = w0.heap.size + 1 from by simp] at this
    exact this
  have hr := hid (ha.roadY x y hx hy l hl)
  have ka := hid ka
  have hwah := hid hwa
  have hne : Hid (l ≠ []) := hid hl.wk.last.1
  clear h ha hl
  obtain ⟨bf, hbf⟩ : ∃ bf, w0.heap.size = bf := ⟨_, rfl⟩
  obtain ⟨bb, hbb⟩ : ∃ bb, bf + 1 = bb := ⟨_, rfl⟩
  rw [hbf] at hfa hba
  rw [hbb] at hba
  have cfa := hfa.cell
  have cba := hba.cell
  have hfa := hid hfa
  have hba := hid hba
  have hv := hid hv
  go_enter Tryd.func46, Tryd.ntmps46
  go_wp2_with fail
  refine hr.out.mono ?_
  rintro e w2 ⟨rfl, nb, N, T2, sub2, seq, pp, par, h2, hxN, hyN, u2, t2, p2, s2, _⟩
  have hf2 := hid (hfa.out.keep h2.keep)
  have hb2 := hid (hba.out.keep h2.keep)
  have cf2 := hf2.out.cell
  have cb2 := hb2.out.cell
  have k2 := hid (ka.out.trans h2.keep)
  have c12 := h2.fo.c1
  obtain ⟨X, hX⟩ : ∃ X, y + 1 = X := ⟨_, rfl⟩
  have hX0 : X ≠ 0 := by omega
  rw [hX] at hyN u2 s2 ⊢
  have hXN : X < N := hyN
  have q1 : (0 : Int) ≤ (X : Int) := by omega
  have q2 : (X : Int) < (N : Int) := by omega
  have h2 := hid h2
  have u2 := hid u2
  have s2 := hid s2
  clear hr hfa hba cfa cba hwa hX hbf hbb t2 p2
  go_wp2_with fail
  have hte : Hid (∀ z, Fo z fb nb n N (real T2 pp) → Calls Tryd.prog 47 #[.pointer (some ⟨nb, X * 9, none⟩)] z fun e w' => e = .returned (.int .i64 ((T2 X).lo)) ∧ z = w') := hid (fun z hz => tells_low z fb nb n N (real T2 pp) X hz hXN)
  obtain ⟨W, hW⟩ : ∃ W, (T2 X).lo = W := ⟨_, rfl⟩
  rw [hW] at hte
  have hWh := hid hW
  clear hW
  have hS0 : (w2.drew.cell? ⟨bf, 0, none⟩ = some (.pointer (some ⟨fb, 0, none⟩)) ∧ w2.drew.cell? ⟨bb, 0, none⟩ = some (.func (.func 47) #[] #[]) ∧ w2.drew.cell? ⟨fb, 1, none⟩ = some (.slice (some ⟨nb, 0, none⟩) N N)) := ⟨cf2, cb2, c12⟩
  have h2d := hid h2.out.drew
  have h2a := hid (h2.out.drew.alloc (.cells #[.int .i64 0] 2))
  go_region_held3 (fun w' => w'.cell? ⟨bf, 0, none⟩ = some (.pointer (some ⟨fb, 0, none⟩)) ∧ w'.cell? ⟨bb, 0, none⟩ = some (.func (.func 47) #[] #[]) ∧ w'.cell? ⟨fb, 1, none⟩ = some (.slice (some ⟨nb, 0, none⟩) N N)) (first | assumption | exact hS0 | go_keep) ((go_at_call 47; refine (hte.out _ (by first | exact h2d.out.fo | exact h2a.out.fo)).mono ?_; rintro e w' ⟨rfl, rfl⟩))
  all_goals
    have hroot := h2.out.lc.gd.inv.root X hX0 u2.out
    have hWS : W = lowV v l := by rw [← hWh.out, (h2.out.lc.gd.inv.tal X).lo, ← hroot, s2.out]
    have hsome : ∃ z, z ∈ seq X ∧ v z = W := by rw [hWS, s2.out]; exact lowV_att v l hne.out hv.out
    have hat : ∀ m, m ≠ [] → (∀ z, z ∈ m → z ∈ seq X) → (lowV v m = W ↔ ∃ z, z ∈ m ∧ v z = W) := by rw [hWS, s2.out]; exact low_at hv.out
    have h3 := (h2.out.alloc (.cells #[.int .i64 W] 2)).drew
    have kk : Keep w2 (w2.alloc (.cells #[.int .i64 W] 2)).drew := ((HS.alloc h2.out.re (.cells #[.int .i64 W] 2)).drew).keep
    have hf3 := hf2.out.keep kk
    have hb3 := hb2.out.keep kk
    have hw3 : WBox (w2.alloc (.cells #[.int .i64 W] 2)).drew w2.heap.size W := heap_alloc_new w2 _
    have kb3 := hid (k2.out.trans kk)
    have cf3 := hf3.cell
    generalize (w2.alloc (.cells #[.int .i64 W] 2)).drew = w3 at h3 hf3 hb3 hw3 kb3 kk cf3 ⊢
    generalize w2.heap.size = bw at hw3 ⊢
    have hseek := hid (HS.fst (tl := lowV v) first1_low h3.re X bf bb bw W hX0 hXN u2.out (fun T sub y hi => (hi.tal y).lo) hat hsome hf3 hb3 hw3)
    have hWSh := hid hWS
    clear hroot hWS hsome hat h3 kk hf3 hb3 hw3 hte hS0 h2d h2a cf2 cb2 c12 hf2 hb2 h2 u2
    go_wp2_with fail
    refine hseek.out.mono ?_
    rintro e w4 ⟨p, T4, sub4, rfl, hp0, hpN, h4, hA⟩
    obtain ⟨d, rfl⟩ : ∃ d, p = d + 1 := ⟨p - 1, by omega⟩
    rw [show ((d + 1 : Nat) : Int) = (d : Int) + 1 from by omega]
    have hit := item_ok d (by have := h4.fo.big; omega) w4
    rw [show ((d + 1 : Nat) : Int) = (d : Int) + 1 from by omega] at hit
    have hit := hid hit
    rw [s2.out] at hA
    have fin := hid (And.intro h4 hA)
    clear h4 hA hseek cf3
    go_wp2_with fail
    refine hit.out.mono ?_
    rintro e w5 ⟨rfl, rfl⟩
    go_wp2_with fail
    go_ret2
    exact ⟨d, by rw [← hWSh.out]; exact fin.out.2, rfl, fin.out.1.end_, kb3.out.trans fin.out.1.keep⟩

set_option maxRecDepth 100000 in
theorem FS.leastY (h : FS lo w fb n v adj w0) (x y : Nat) (hx : x < n) (hy : y < n) (l : List Nat) (hl : Rd adj (x + 1) (y + 1) l) (hv : In64 v l) :
    Calls Tryd.prog 27 #[.pointer (some ⟨fb, 0, none⟩), .int .i64 (x : Int), .int .i64 (y : Int)] w0 fun e w' => ∃ d : Nat, (∃ A B, l = A ++ (d + 1) :: B ∧ v (d + 1) = lowV v l ∧ ∀ z, z ∈ A → v z ≠ lowV v l) ∧ e = .returned (.tuple #[.int .i64 (d : Int), .nilIface]) ∧ FS lo w fb n v adj w' ∧ Keep w0 w' := by
  have hf := hid (h.firstL x y hx hy l hl hv)
  clear h hl hv
  go_enter Tryd.func27, Tryd.ntmps27
  go_wp2_with fail
  refine hf.out.mono ?_
  rintro e w1 ⟨d, hA, rfl, h1⟩
  have h1 := hid (And.intro hA h1)
  clear hA
  go_wp2_with fail
  go_ret2
  exact ⟨d, h1.out.1, rfl, h1.out.2⟩

set_option maxRecDepth 100000 in
set_option maxHeartbeats 1000000 in
theorem FS.firstL_err (h : FS lo w fb n v adj w0) (x y E : Int) (hr : ∀ wa, FS lo w fb n v adj wa → Calls Tryd.prog 20 #[.pointer (some ⟨fb, 0, none⟩), .int .i64 x, .int .i64 y] wa fun e w' => e = .returned (.tuple #[.int .i32 0, (.iface 46 (.int .i64 E))]) ∧ FS lo w fb n v adj w' ∧ Keep wa w') :
    Calls Tryd.prog 27 #[.pointer (some ⟨fb, 0, none⟩), .int .i64 x, .int .i64 y] w0 fun e w' => e = .returned (.tuple #[.int .i64 0, (.iface 46 (.int .i64 E))]) ∧ FS lo w fb n v adj w' ∧ Keep w0 w' := by
  have hfi : Calls Tryd.prog 46 #[.pointer (some ⟨fb, 0, none⟩), .int .i64 x, .int .i64 y, .func (.func 47) #[] #[]] w0 fun e w' => e = .returned (.tuple #[.int .i64 0, (.iface 46 (.int .i64 E))]) ∧ FS lo w fb n v adj w' ∧ Keep w0 w' := by
    obtain ⟨wa, hwa⟩ : ∃ wa, (w0.alloc (.cells #[.pointer (some ⟨fb, 0, none⟩)] 24)).alloc (.cells #[.func (.func 47) #[] #[]] 90) = wa := ⟨_, rfl⟩
    have ha : FS lo w fb n v adj wa := by rw [← hwa]; exact (h.alloc _).alloc _
    have ka : Keep w0 wa := by rw [← hwa]; exact ((Keep.refl w0).alloc _).alloc _
    have hfa : FBox wa w0.heap.size fb := by rw [← hwa]; exact FBox.keep (heap_alloc_new w0 _) ((Keep.refl _).alloc _)
    have cfa := hfa.cell
    have hs := hid (hr wa ha)
    have ka := hid ka
    clear h ha hr hfa
    go_enter Tryd.func46, Tryd.ntmps46
    go_wp2_with fail
    refine hs.out.mono ?_
    rintro e w1 ⟨rfl, h1, k1⟩
    have h1 := hid (And.intro h1 (ka.out.trans k1))
    clear k1
    go_wp2_with fail
    go_ret2
    exact ⟨rfl, h1.out⟩
  have hfi := hid hfi
  clear hr
  go_enter Tryd.func27, Tryd.ntmps27
  go_wp2_with fail
  refine hfi.out.mono ?_
  rintro e w1 ⟨rfl, h1⟩
  have h1 := hid h1
  go_wp2_with fail
  go_ret2
  exact ⟨rfl, h1.out⟩

theorem FS.leastN (h : FS lo w fb n v adj w0) (x y : Nat) (hx : x < n) (hy : y < n) (hl : ∀ l, ¬ Rd adj (x + 1) (y + 1) l) :
    Calls Tryd.prog 27 #[.pointer (some ⟨fb, 0, none⟩), .int .i64 (x : Int), .int .i64 (y : Int)] w0 fun e w' => e = .returned (.tuple #[.int .i64 0, (.iface 46 (.int .i64 21))]) ∧ FS lo w fb n v adj w' ∧ Keep w0 w' := h.firstL_err x y 21 (fun wa ha => ha.roadN x y hx hy hl)

theorem FS.least_bad (h : FS lo w fb n v adj w0) (x y : Int) (hx : ¬ ((0 ≤ x ∧ x < (n : Int)) ∧ (0 ≤ y ∧ y < (n : Int)))) :
    Calls Tryd.prog 27 #[.pointer (some ⟨fb, 0, none⟩), .int .i64 x, .int .i64 y] w0 fun e w' => e = .returned (.tuple #[.int .i64 0, (.iface 46 (.int .i64 12))]) ∧ FS lo w fb n v adj w' ∧ Keep w0 w' := h.firstL_err x y 12 (fun wa ha => ha.road_bad x y hx)

set_option maxRecDepth 100000 in
set_option maxHeartbeats 1000000 in
theorem least_nil (x y : Int) (w0 : World) :
    Calls Tryd.prog 27 #[.pointer none, .int .i64 x, .int .i64 y] w0 fun e w' => e = .returned (.tuple #[.int .i64 0, (.iface 46 (.int .i64 1))]) ∧ Below w0.heap.size w0 w' := by
  have hfi : Calls Tryd.prog 46 #[.pointer none, .int .i64 x, .int .i64 y, .func (.func 47) #[] #[]] w0 fun e w' => e = .returned (.tuple #[.int .i64 0, (.iface 46 (.int .i64 1))]) ∧ Below w0.heap.size w0 w' := by
    obtain ⟨wa, hwa⟩ : ∃ wa, (w0.alloc (.cells #[.pointer none] 24)).alloc (.cells #[.func (.func 47) #[] #[]] 90) = wa := ⟨_, rfl⟩
    have hb : Below w0.heap.size w0 wa := by rw [← hwa]; exact ((Below.refl _ _).alloc (Nat.le_refl _) _).alloc (by simp) _
    have cfa : wa.cell? ⟨w0.heap.size, 0, none⟩ = some (.pointer none) := by
      rw [← hwa]
      have h1 := heap_alloc_new w0 (.cells #[.pointer none] 24)
      have h2 := Below.heap_alloc (w0.alloc (.cells #[.pointer none] 24)) (.cells #[.func (.func 47) #[] #[]] 90) w0.heap.size (by simp)
      unfold World.cell?
      rw [h2, h1]; simp
    have hs := hid (road_nil x y wa)
    have hb := hid hb
    go_enter Tryd.func46, Tryd.ntmps46
    go_wp2_with fail
    refine hs.out.mono ?_
    rintro e w1 ⟨rfl, h1⟩
    have h1 := hid (hb.out.trans (h1.mono hb.out.size))
    go_wp2_with fail
    go_ret2
    exact ⟨rfl, h1.out⟩
  have hfi := hid hfi
  go_enter Tryd.func27, Tryd.ntmps27
  go_wp2_with fail
  refine hfi.out.mono ?_
  rintro e w1 ⟨rfl, h1⟩
  have h1 := hid h1
  go_wp2_with fail
  go_ret2
  exact ⟨rfl, h1.out⟩

set_option maxRecDepth 100000 in
set_option maxHeartbeats 2000000 in
theorem FS.firstM (h : FS lo w fb n v adj w0) (x y : Nat) (hx : x < n) (hy : y < n) (l : List Nat) (hl : Rd adj (x + 1) (y + 1) l) (hv : In64 v l) :
    Calls Tryd.prog 46 #[.pointer (some ⟨fb, 0, none⟩), .int .i64 (x : Int), .int .i64 (y : Int), .func (.func 48) #[] #[]] w0 fun e w' => ∃ d : Nat, (∃ A B, l = A ++ (d + 1) :: B ∧ v (d + 1) = highV v l ∧ ∀ z, z ∈ A → v z ≠ highV v l) ∧ e = .returned (.tuple #[.int .i64 (d : Int), .nilIface]) ∧ FS lo w fb n v adj w' ∧ Keep w0 w' := by
  obtain ⟨wa, hwa⟩ : ∃ wa, (w0.alloc (.cells #[.pointer (some ⟨fb, 0, none⟩)] 24)).alloc (.cells #[.func (.func 48) #[] #[]] 90) = wa := ⟨_, rfl⟩
  have ha : FS lo w fb n v adj wa := by rw [← hwa]; exact (h.alloc _).alloc _
  have ka : Keep w0 wa := by rw [← hwa]; exact ((Keep.refl w0).alloc _).alloc _
  have hfa : FBox wa w0.heap.size fb := by rw [← hwa]; exact FBox.keep (heap_alloc_new w0 _) ((Keep.refl _).alloc _)
  have hba : BBox wa (w0.heap.size + 1) 48 := by
    rw [← hwa]
    have := heap_alloc_new (w0.alloc (.cells #[.pointer (some ⟨fb, 0, none⟩)] 24)) (.cells #[.func (.func 48) #[] #[]] 90)
    rw [show (w0.alloc (.cells #[.pointer (some ⟨fb, 0, none⟩)] 24)).heap.size = w0.heap.size + 1 from by simp] at this
    exact this
  have hr := hid (ha.roadY x y hx hy l hl)
  have ka := hid ka
  have hwah := hid hwa
  have hne : Hid (l ≠ []) := hid hl.wk.last.1
  clear h ha hl
  obtain ⟨bf, hbf⟩ : ∃ bf, w0.heap.size = bf := ⟨_, rfl⟩
  obtain ⟨bb, hbb⟩ : ∃ bb, bf + 1 = bb := ⟨_, rfl⟩
  rw [hbf] at hfa hba
  rw [hbb] at hba
  have cfa := hfa.cell
  have cba := hba.cell
  have hfa := hid hfa
  have hba := hid hba
  have hv := hid hv
  go_enter Tryd.func46, Tryd.ntmps46
  go_wp2_with fail
  refine hr.out.mono ?_
  rintro e w2 ⟨rfl, nb, N, T2, sub2, seq, pp, par, h2, hxN, hyN, u2, t2, p2, s2, _⟩
  have hf2 := hid (hfa.out.keep h2.keep)
  have hb2 := hid (hba.out.keep h2.keep)
  have cf2 := hf2.out.cell
  have cb2 := hb2.out.cell
  have k2 := hid (ka.out.trans h2.keep)
  have c12 := h2.fo.c1
  obtain ⟨X, hX⟩ : ∃ X, y + 1 = X := ⟨_, rfl⟩
  have hX0 : X ≠ 0 := by omega
  rw [hX] at hyN u2 s2 ⊢
  have hXN : X < N := hyN
  have q1 : (0 : Int) ≤ (X : Int) := by omega
  have q2 : (X : Int) < (N : Int) := by omega
  have h2 := hid h2
  have u2 := hid u2
  have s2 := hid s2
  clear hr hfa hba cfa cba hwa hX hbf hbb t2 p2
  go_wp2_with fail
  have hte : Hid (∀ z, Fo z fb nb n N (real T2 pp) → Calls Tryd.prog 48 #[.pointer (some ⟨nb, X * 9, none⟩)] z fun e w' => e = .returned (.int .i64 ((T2 X).hi)) ∧ z = w') := hid (fun z hz => tells_high z fb nb n N (real T2 pp) X hz hXN)
  obtain ⟨W, hW⟩ : ∃ W, (T2 X).hi = W := ⟨_, rfl⟩
  rw [hW] at hte
  have hWh := hid hW
  clear hW
  have hS0 : (w2.drew.cell? ⟨bf, 0, none⟩ = some (.pointer (some ⟨fb, 0, none⟩)) ∧ w2.drew.cell? ⟨bb, 0, none⟩ = some (.func (.func 48) #[] #[]) ∧ w2.drew.cell? ⟨fb, 1, none⟩ = some (.slice (some ⟨nb, 0, none⟩) N N)) := ⟨cf2, cb2, c12⟩
  have h2d := hid h2.out.drew
  have h2a := hid (h2.out.drew.alloc (.cells #[.int .i64 0] 2))
  go_region_held3 (fun w' => w'.cell? ⟨bf, 0, none⟩ = some (.pointer (some ⟨fb, 0, none⟩)) ∧ w'.cell? ⟨bb, 0, none⟩ = some (.func (.func 48) #[] #[]) ∧ w'.cell? ⟨fb, 1, none⟩ = some (.slice (some ⟨nb, 0, none⟩) N N)) (first | assumption | exact hS0 | go_keep) ((go_at_call 48; refine (hte.out _ (by first | exact h2d.out.fo | exact h2a.out.fo)).mono ?_; rintro e w' ⟨rfl, rfl⟩))
  all_goals
    have hroot := h2.out.lc.gd.inv.root X hX0 u2.out
    have hWS : W = highV v l := by rw [← hWh.out, (h2.out.lc.gd.inv.tal X).hi, ← hroot, s2.out]
    have hsome : ∃ z, z ∈ seq X ∧ v z = W := by rw [hWS, s2.out]; exact highV_att v l hne.out hv.out
    have hat : ∀ m, m ≠ [] → (∀ z, z ∈ m → z ∈ seq X) → (highV v m = W ↔ ∃ z, z ∈ m ∧ v z = W) := by rw [hWS, s2.out]; exact high_at hv.out
    have h3 := (h2.out.alloc (.cells #[.int .i64 W] 2)).drew
    have kk : Keep w2 (w2.alloc (.cells #[.int .i64 W] 2)).drew := ((HS.alloc h2.out.re (.cells #[.int .i64 W] 2)).drew).keep
    have hf3 := hf2.out.keep kk
    have hb3 := hb2.out.keep kk
    have hw3 : WBox (w2.alloc (.cells #[.int .i64 W] 2)).drew w2.heap.size W := heap_alloc_new w2 _
    have kb3 := hid (k2.out.trans kk)
    have cf3 := hf3.cell
    generalize (w2.alloc (.cells #[.int .i64 W] 2)).drew = w3 at h3 hf3 hb3 hw3 kb3 kk cf3 ⊢
    generalize w2.heap.size = bw at hw3 ⊢
    have hseek := hid (HS.fst (tl := highV v) first1_high h3.re X bf bb bw W hX0 hXN u2.out (fun T sub y hi => (hi.tal y).hi) hat hsome hf3 hb3 hw3)
    have hWSh := hid hWS
    clear hroot hWS hsome hat h3 kk hf3 hb3 hw3 hte hS0 h2d h2a cf2 cb2 c12 hf2 hb2 h2 u2
    go_wp2_with fail
    refine hseek.out.mono ?_
    rintro e w4 ⟨p, T4, sub4, rfl, hp0, hpN, h4, hA⟩
    obtain ⟨d, rfl⟩ : ∃ d, p = d + 1 := ⟨p - 1, by omega⟩
    rw [show ((d + 1 : Nat) : Int) = (d : Int) + 1 from by omega]
    have hit := item_ok d (by have := h4.fo.big; omega) w4
    rw [show ((d + 1 : Nat) : Int) = (d : Int) + 1 from by omega] at hit
    have hit := hid hit
    rw [s2.out] at hA
    have fin := hid (And.intro h4 hA)
    clear h4 hA hseek cf3
    go_wp2_with fail
    refine hit.out.mono ?_
    rintro e w5 ⟨rfl, rfl⟩
    go_wp2_with fail
    go_ret2
    exact ⟨d, by rw [← hWSh.out]; exact fin.out.2, rfl, fin.out.1.end_, kb3.out.trans fin.out.1.keep⟩

set_option maxRecDepth 100000 in
theorem FS.mostY (h : FS lo w fb n v adj w0) (x y : Nat) (hx : x < n) (hy : y < n) (l : List Nat) (hl : Rd adj (x + 1) (y + 1) l) (hv : In64 v l) :
    Calls Tryd.prog 28 #[.pointer (some ⟨fb, 0, none⟩), .int .i64 (x : Int), .int .i64 (y : Int)] w0 fun e w' => ∃ d : Nat, (∃ A B, l = A ++ (d + 1) :: B ∧ v (d + 1) = highV v l ∧ ∀ z, z ∈ A → v z ≠ highV v l) ∧ e = .returned (.tuple #[.int .i64 (d : Int), .nilIface]) ∧ FS lo w fb n v adj w' ∧ Keep w0 w' := by
  have hf := hid (h.firstM x y hx hy l hl hv)
  clear h hl hv
  go_enter Tryd.func28, Tryd.ntmps28
  go_wp2_with fail
  refine hf.out.mono ?_
  rintro e w1 ⟨d, hA, rfl, h1⟩
  have h1 := hid (And.intro hA h1)
  clear hA
  go_wp2_with fail
  go_ret2
  exact ⟨d, h1.out.1, rfl, h1.out.2⟩

set_option maxRecDepth 100000 in
set_option maxHeartbeats 1000000 in
theorem FS.firstM_err (h : FS lo w fb n v adj w0) (x y E : Int) (hr : ∀ wa, FS lo w fb n v adj wa → Calls Tryd.prog 20 #[.pointer (some ⟨fb, 0, none⟩), .int .i64 x, .int .i64 y] wa fun e w' => e = .returned (.tuple #[.int .i32 0, (.iface 46 (.int .i64 E))]) ∧ FS lo w fb n v adj w' ∧ Keep wa w') :
    Calls Tryd.prog 28 #[.pointer (some ⟨fb, 0, none⟩), .int .i64 x, .int .i64 y] w0 fun e w' => e = .returned (.tuple #[.int .i64 0, (.iface 46 (.int .i64 E))]) ∧ FS lo w fb n v adj w' ∧ Keep w0 w' := by
  have hfi : Calls Tryd.prog 46 #[.pointer (some ⟨fb, 0, none⟩), .int .i64 x, .int .i64 y, .func (.func 48) #[] #[]] w0 fun e w' => e = .returned (.tuple #[.int .i64 0, (.iface 46 (.int .i64 E))]) ∧ FS lo w fb n v adj w' ∧ Keep w0 w' := by
    obtain ⟨wa, hwa⟩ : ∃ wa, (w0.alloc (.cells #[.pointer (some ⟨fb, 0, none⟩)] 24)).alloc (.cells #[.func (.func 48) #[] #[]] 90) = wa := ⟨_, rfl⟩
    have ha : FS lo w fb n v adj wa := by rw [← hwa]; exact (h.alloc _).alloc _
    have ka : Keep w0 wa := by rw [← hwa]; exact ((Keep.refl w0).alloc _).alloc _
    have hfa : FBox wa w0.heap.size fb := by rw [← hwa]; exact FBox.keep (heap_alloc_new w0 _) ((Keep.refl _).alloc _)
    have cfa := hfa.cell
    have hs := hid (hr wa ha)
    have ka := hid ka
    clear h ha hr hfa
    go_enter Tryd.func46, Tryd.ntmps46
    go_wp2_with fail
    refine hs.out.mono ?_
    rintro e w1 ⟨rfl, h1, k1⟩
    have h1 := hid (And.intro h1 (ka.out.trans k1))
    clear k1
    go_wp2_with fail
    go_ret2
    exact ⟨rfl, h1.out⟩
  have hfi := hid hfi
  clear hr
  go_enter Tryd.func28, Tryd.ntmps28
  go_wp2_with fail
  refine hfi.out.mono ?_
  rintro e w1 ⟨rfl, h1⟩
  have h1 := hid h1
  go_wp2_with fail
  go_ret2
  exact ⟨rfl, h1.out⟩

theorem FS.mostN (h : FS lo w fb n v adj w0) (x y : Nat) (hx : x < n) (hy : y < n) (hl : ∀ l, ¬ Rd adj (x + 1) (y + 1) l) :
    Calls Tryd.prog 28 #[.pointer (some ⟨fb, 0, none⟩), .int .i64 (x : Int), .int .i64 (y : Int)] w0 fun e w' => e = .returned (.tuple #[.int .i64 0, (.iface 46 (.int .i64 21))]) ∧ FS lo w fb n v adj w' ∧ Keep w0 w' := h.firstM_err x y 21 (fun wa ha => ha.roadN x y hx hy hl)

theorem FS.most_bad (h : FS lo w fb n v adj w0) (x y : Int) (hx : ¬ ((0 ≤ x ∧ x < (n : Int)) ∧ (0 ≤ y ∧ y < (n : Int)))) :
    Calls Tryd.prog 28 #[.pointer (some ⟨fb, 0, none⟩), .int .i64 x, .int .i64 y] w0 fun e w' => e = .returned (.tuple #[.int .i64 0, (.iface 46 (.int .i64 12))]) ∧ FS lo w fb n v adj w' ∧ Keep w0 w' := h.firstM_err x y 12 (fun wa ha => ha.road_bad x y hx)

set_option maxRecDepth 100000 in
set_option maxHeartbeats 1000000 in
theorem most_nil (x y : Int) (w0 : World) :
    Calls Tryd.prog 28 #[.pointer none, .int .i64 x, .int .i64 y] w0 fun e w' => e = .returned (.tuple #[.int .i64 0, (.iface 46 (.int .i64 1))]) ∧ Below w0.heap.size w0 w' := by
  have hfi : Calls Tryd.prog 46 #[.pointer none, .int .i64 x, .int .i64 y, .func (.func 48) #[] #[]] w0 fun e w' => e = .returned (.tuple #[.int .i64 0, (.iface 46 (.int .i64 1))]) ∧ Below w0.heap.size w0 w' := by
    obtain ⟨wa, hwa⟩ : ∃ wa, (w0.alloc (.cells #[.pointer none] 24)).alloc (.cells #[.func (.func 48) #[] #[]] 90) = wa := ⟨_, rfl⟩
    have hb : Below w0.heap.size w0 wa := by rw [← hwa]; exact ((Below.refl _ _).alloc (Nat.le_refl _) _).alloc (by simp) _
    have cfa : wa.cell? ⟨w0.heap.size, 0, none⟩ = some (.pointer none) := by
      rw [← hwa]
      have h1 := heap_alloc_new w0 (.cells #[.pointer none] 24)
      have h2 := Below.heap_alloc (w0.alloc (.cells #[.pointer none] 24)) (.cells #[.func (.func 48) #[] #[]] 90) w0.heap.size (by simp)
      unfold World.cell?
      rw [h2, h1]; simp
    have hs := hid (road_nil x y wa)
    have hb := hid hb
    go_enter Tryd.func46, Tryd.ntmps46
    go_wp2_with fail
    refine hs.out.mono ?_
    rintro e w1 ⟨rfl, h1⟩
    have h1 := hid (hb.out.trans (h1.mono hb.out.size))
    go_wp2_with fail
    go_ret2
    exact ⟨rfl, h1.out⟩
  have hfi := hid hfi
  go_enter Tryd.func28, Tryd.ntmps28
  go_wp2_with fail
  refine hfi.out.mono ?_
  rintro e w1 ⟨rfl, h1⟩
  have h1 := hid h1
  go_wp2_with fail
  go_ret2
  exact ⟨rfl, h1.out⟩

end

end Go.Proofs.YtnkgpjjlgbggcaaDoor
