/- 'first', 'Least' and 'Most', walked. -/
import Derived.Test.YtpelpcplagfdiaaDoorLeast4
namespace Go.Proofs.YtpelpcplagfdiaaDoor
open Go.RowKit
set_option linter.unusedVariables false

/-- The values of a list are numbers of 64 bits. -/
def In64 (v : Nat → Int) (l : List Nat) : Prop := ∀ z, z ∈ l → -9223372036854775808 ≤ v z ∧ v z ≤ 9223372036854775807

theorem lowV_mem (v : Nat → Int) : ∀ (l : List Nat) (z : Nat), z ∈ l → lowV v l ≤ v z
  | x :: l, z, hz => by
    simp only [lowV]
    rcases List.mem_cons.1 hz with rfl | hz
    · omega
    · have := lowV_mem v l z hz; omega
theorem highV_mem (v : Nat → Int) : ∀ (l : List Nat) (z : Nat), z ∈ l → v z ≤ highV v l
  | x :: l, z, hz => by
    simp only [highV]
    rcases List.mem_cons.1 hz with rfl | hz
    · omega
    · have := highV_mem v l z hz; omega
theorem lowV_att (v : Nat → Int) : ∀ l : List Nat, l ≠ [] → In64 v l → ∃ z, z ∈ l ∧ v z = lowV v l
  | [x], _, h => ⟨x, by simp, by have := h x (by simp); simp only [lowV]; omega⟩
  | x :: y :: l, _, h => by
    obtain ⟨z, hz, e⟩ := lowV_att v (y :: l) (by simp) (fun z hz => h z (List.mem_cons_of_mem _ hz))
    rcases Int.lt_or_le (lowV v (y :: l)) (v x) with hlt | hge
    · exact ⟨z, List.mem_cons_of_mem _ hz, by rw [show lowV v (x :: y :: l) = min (v x) (lowV v (y :: l)) from rfl]; omega⟩
    · exact ⟨x, by simp, by rw [show lowV v (x :: y :: l) = min (v x) (lowV v (y :: l)) from rfl]; omega⟩
theorem highV_att (v : Nat → Int) : ∀ l : List Nat, l ≠ [] → In64 v l → ∃ z, z ∈ l ∧ v z = highV v l
  | [x], _, h => ⟨x, by simp, by have := h x (by simp); simp only [highV]; omega⟩
  | x :: y :: l, _, h => by
    obtain ⟨z, hz, e⟩ := highV_att v (y :: l) (by simp) (fun z hz => h z (List.mem_cons_of_mem _ hz))
    rcases Int.lt_or_le (v x) (highV v (y :: l)) with hlt | hge
    · exact ⟨z, List.mem_cons_of_mem _ hz, by rw [show highV v (x :: y :: l) = max (v x) (highV v (y :: l)) from rfl]; omega⟩
    · exact ⟨x, by simp, by rw [show highV v (x :: y :: l) = max (v x) (highV v (y :: l)) from rfl]; omega⟩
theorem low_at {v : Nat → Int} {S : List Nat} (h : In64 v S) (l : List Nat) (hl : l ≠ []) (hs : ∀ z, z ∈ l → z ∈ S) : lowV v l = lowV v S ↔ ∃ z, z ∈ l ∧ v z = lowV v S := by
  obtain ⟨y, hy, ey⟩ := lowV_att v l hl (fun z hz => h z (hs z hz))
  constructor
  · intro e; exact ⟨y, hy, by rw [ey, e]⟩
  · rintro ⟨z, hz, ez⟩
    have h1 := lowV_mem v l z hz
    have h2 := lowV_mem v S y (hs y hy)
    omega
theorem high_at {v : Nat → Int} {S : List Nat} (h : In64 v S) (l : List Nat) (hl : l ≠ []) (hs : ∀ z, z ∈ l → z ∈ S) : highV v l = highV v S ↔ ∃ z, z ∈ l ∧ v z = highV v S := by
  obtain ⟨y, hy, ey⟩ := highV_att v l hl (fun z hz => h z (hs z hz))
  constructor
  · intro e; exact ⟨y, hy, by rw [ey, e]⟩
  · rintro ⟨z, hz, ez⟩
    have h1 := highV_mem v l z hz
    have h2 := highV_mem v S y (hs y hy)
    omega

section
variable {lo fb n : Nat} {w w0 : World} {v : Nat → Int} {seq : Nat → List Nat}

set_option maxRecDepth 100000 in
set_option maxHeartbeats 2000000 in
theorem FS.firstL (h : FS lo w fb n v seq w0) (x : Nat) (hx : x < n) (hv : In64 v (seq (x + 1))) :
    Calls Tryd.prog 50 #[.pointer (some ⟨fb, 0, none⟩), .int .i64 (x : Int), .func (.func 51) #[] #[]] w0 fun e w' => ∃ d : Nat, (∃ A B, seq (x + 1) = A ++ (d + 1) :: B ∧ v (d + 1) = lowV v (seq (x + 1)) ∧ ∀ z, z ∈ A → v z ≠ lowV v (seq (x + 1))) ∧ e = .returned (.tuple #[.int .i64 (d : Int), .nilIface]) ∧ FS lo w fb n v seq w' ∧ Keep w0 w' := by
  obtain ⟨wa, hwa⟩ : ∃ wa, (w0.alloc (.cells #[.pointer (some ⟨fb, 0, none⟩)] 24)).alloc (.cells #[.func (.func 51) #[] #[]] 97) = wa := ⟨_, rfl⟩
  have ha : FS lo w fb n v seq wa := by rw [← hwa]; exact (h.alloc _).alloc _
  have ka : Keep w0 wa := by rw [← hwa]; exact ((Keep.refl w0).alloc _).alloc _
  have hfa : FBox wa w0.heap.size fb := by rw [← hwa]; exact FBox.keep (heap_alloc_new w0 _) ((Keep.refl _).alloc _)
  have hba : BBox wa (w0.heap.size + 1) 51 := by
    rw [← hwa]
    have := heap_alloc_new (w0.alloc (.cells #[.pointer (some ⟨fb, 0, none⟩)] 24)) (.cells #[.func (.func 51) #[] #[]] 97)
    rw [show (w0.alloc (.cells #[.pointer (some ⟨fb, 0, none⟩)] 24)).heap.size = w0.heap.size + 1 from by simp] at this
    exact this
  have hl := hid (ha.look1 x hx)
  have ka := hid ka
  have hwah := hid hwa
  clear h ha
  obtain ⟨bf, hbf⟩ : ∃ bf, w0.heap.size = bf := ⟨_, rfl⟩
  obtain ⟨bb, hbb⟩ : ∃ bb, bf + 1 = bb := ⟨_, rfl⟩
  rw [hbf] at hfa hba
  rw [hbb] at hba
  have cfa := hfa.cell
  have cba := hba.cell
  have hfa := hid hfa
  have hba := hid hba
  go_enter Tryd.func50, Tryd.ntmps50
  go_wp2_with fail
  refine hl.out.mono ?_
  rintro e w1 ⟨rfl, nb, N, T, sub, h1, hxN⟩
  have hf1 := hid (hfa.out.keep h1.keep)
  have hb1 := hid (hba.out.keep h1.keep)
  have cf1 := hf1.out.cell
  have cb1 := hb1.out.cell
  have k1 := hid (ka.out.trans h1.keep)
  obtain ⟨X, hX⟩ : ∃ X, x + 1 = X := ⟨_, rfl⟩
  have hX0 : X ≠ 0 := by omega
  have htop := h1.re.top x hxN
  rw [hX] at htop hxN hv
  have htop := hid htop
  have hXh := hid hX
  have hXN : X < N := hxN
  have hv := hid hv
  clear hl hfa hba cfa cba hwa hX hbf hbb
  go_wp2_with fail
  refine htop.out.mono ?_
  rintro e w2 ⟨rfl, T2, sub2, h2, m2, u2, t2⟩
  have hf2 := hid (hf1.out.keep h2.keep)
  have hb2 := hid (hb1.out.keep h2.keep)
  have cf2 := hf2.out.cell
  have cb2 := hb2.out.cell
  have k2 := hid (k1.out.trans h2.keep)
  have c12 := h2.fo.c1
  have q1 : (0 : Int) ≤ (X : Int) := by omega
  have q2 : (X : Int) < (N : Int) := by omega
  have h2 := hid h2
  have u2 := hid u2
  clear htop hf1 hb1 cf1 cb1 m2 t2 h1
  go_wp2_with fail
  have hte : Hid (∀ y, Fo y fb nb n N T2 → Calls Tryd.prog 51 #[.pointer (some ⟨nb, X * 9, none⟩)] y fun e w' => e = .returned (.int .i64 ((T2 X).lo)) ∧ y = w') := hid (fun y hy => tells_low y fb nb n N T2 X hy hXN)
  obtain ⟨W, hW⟩ : ∃ W, (T2 X).lo = W := ⟨_, rfl⟩
  rw [hW] at hte
  have hWh := hid hW
  clear hW
  have hS0 : (w2.drew.cell? ⟨bf, 0, none⟩ = some (.pointer (some ⟨fb, 0, none⟩)) ∧ w2.drew.cell? ⟨bb, 0, none⟩ = some (.func (.func 51) #[] #[]) ∧ w2.drew.cell? ⟨fb, 1, none⟩ = some (.slice (some ⟨nb, 0, none⟩) N N)) := ⟨cf2, cb2, c12⟩
  have h2d := hid h2.out.drew
  have h2a := hid (h2.out.drew.alloc (.cells #[.int .i64 0] 2))
  go_region_held3 (fun w' => w'.cell? ⟨bf, 0, none⟩ = some (.pointer (some ⟨fb, 0, none⟩)) ∧ w'.cell? ⟨bb, 0, none⟩ = some (.func (.func 51) #[] #[]) ∧ w'.cell? ⟨fb, 1, none⟩ = some (.slice (some ⟨nb, 0, none⟩) N N)) (first | assumption | exact hS0 | go_keep) ((go_at_call 51; refine (hte.out _ (by first | exact h2d.out.fo | exact h2a.out.fo)).mono ?_; rintro e w' ⟨rfl, rfl⟩))
  all_goals
    have hroot := h2.out.gd.inv.root X hX0 u2.out
    have hWS : W = lowV v (seq X) := by rw [← hWh.out, (h2.out.gd.inv.tal X).lo, hroot]
    have hSne : seq X ≠ [] := fun e => by have := h2.out.gd.inv.self hX0; rw [← hroot, e] at this; cases this
    have hsome : ∃ z, z ∈ seq X ∧ v z = W := by rw [hWS]; exact lowV_att v (seq X) hSne hv.out
    have hat : ∀ l, l ≠ [] → (∀ z, z ∈ l → z ∈ seq X) → (lowV v l = W ↔ ∃ z, z ∈ l ∧ v z = W) := by rw [hWS]; exact low_at hv.out
    have h3 := (h2.out.alloc (.cells #[.int .i64 W] 2)).drew
    have kk : Keep w2 (w2.alloc (.cells #[.int .i64 W] 2)).drew := ((HS.alloc h2.out.re (.cells #[.int .i64 W] 2)).drew).keep
    have hf3 := hf2.out.keep kk
    have hb3 := hb2.out.keep kk
    have hw3 : WBox (w2.alloc (.cells #[.int .i64 W] 2)).drew w2.heap.size W := heap_alloc_new w2 _
    have kb3 := hid (k2.out.trans kk)
    have cf3 := hf3.cell
    generalize (w2.alloc (.cells #[.int .i64 W] 2)).drew = w3 at h3 hf3 hb3 hw3 kb3 kk cf3 ⊢
    generalize w2.heap.size = bw at hw3 ⊢
    have hseek := hid (HS.fst (tl := lowV v) first1_low h3.re X bf bb bw W hX0 hXN u2.out (fun T sub y hi => (hi.tal y).lo) hat hsome hf3 hb3 hw3)
    have hWSh := hid hWS
    clear hroot hWS hSne hsome hat h3 kk hf3 hb3 hw3 hte hS0 h2d h2a cf2 cb2 c12 hf2 hb2 h2 u2
    go_wp2_with fail
    refine hseek.out.mono ?_
    rintro e w4 ⟨p, T4, sub4, rfl, hp0, hpN, h4, hA⟩
    obtain ⟨d, rfl⟩ : ∃ d, p = d + 1 := ⟨p - 1, by omega⟩
    rw [show ((d + 1 : Nat) : Int) = (d : Int) + 1 from by omega]
    have hit := item_ok d (by have := h4.fo.big; omega) w4
    rw [show ((d + 1 : Nat) : Int) = (d : Int) + 1 from by omega] at hit
    have hit := hid hit
    have fin := hid (And.intro h4 hA)
    clear h4 hA hseek cf3
    go_wp2_with fail
    refine hit.out.mono ?_
    rintro e w5 ⟨rfl, rfl⟩
    go_wp2_with fail
    go_ret2
    exact ⟨d, by rw [hXh.out, ← hWSh.out]; exact fin.out.2, rfl, fin.out.1.end_, kb3.out.trans fin.out.1.keep⟩

set_option maxRecDepth 100000 in
theorem FS.least (h : FS lo w fb n v seq w0) (x : Nat) (hx : x < n) (hv : In64 v (seq (x + 1))) :
    Calls Tryd.prog 32 #[.pointer (some ⟨fb, 0, none⟩), .int .i64 (x : Int)] w0 fun e w' => ∃ d : Nat, (∃ A B, seq (x + 1) = A ++ (d + 1) :: B ∧ v (d + 1) = lowV v (seq (x + 1)) ∧ ∀ z, z ∈ A → v z ≠ lowV v (seq (x + 1))) ∧ e = .returned (.tuple #[.int .i64 (d : Int), .nilIface]) ∧ FS lo w fb n v seq w' ∧ Keep w0 w' := by
  have hf := hid (h.firstL x hx hv)
  clear h hv
  go_enter Tryd.func32, Tryd.ntmps32
  go_wp2_with fail
  refine hf.out.mono ?_
  rintro e w1 ⟨d, hA, rfl, h1, k1⟩
  have fin := hid (And.intro hA (And.intro h1 k1))
  clear hA h1 k1 hf
  go_wp2_with fail
  go_ret2
  exact ⟨d, fin.out.1, rfl, fin.out.2.1, fin.out.2.2⟩

set_option maxRecDepth 100000 in
set_option maxHeartbeats 2000000 in
theorem FS.firstM (h : FS lo w fb n v seq w0) (x : Nat) (hx : x < n) (hv : In64 v (seq (x + 1))) :
    Calls Tryd.prog 50 #[.pointer (some ⟨fb, 0, none⟩), .int .i64 (x : Int), .func (.func 52) #[] #[]] w0 fun e w' => ∃ d : Nat, (∃ A B, seq (x + 1) = A ++ (d + 1) :: B ∧ v (d + 1) = highV v (seq (x + 1)) ∧ ∀ z, z ∈ A → v z ≠ highV v (seq (x + 1))) ∧ e = .returned (.tuple #[.int .i64 (d : Int), .nilIface]) ∧ FS lo w fb n v seq w' ∧ Keep w0 w' := by
  obtain ⟨wa, hwa⟩ : ∃ wa, (w0.alloc (.cells #[.pointer (some ⟨fb, 0, none⟩)] 24)).alloc (.cells #[.func (.func 52) #[] #[]] 97) = wa := ⟨_, rfl⟩
  have ha : FS lo w fb n v seq wa := by rw [← hwa]; exact (h.alloc _).alloc _
  have ka : Keep w0 wa := by rw [← hwa]; exact ((Keep.refl w0).alloc _).alloc _
  have hfa : FBox wa w0.heap.size fb := by rw [← hwa]; exact FBox.keep (heap_alloc_new w0 _) ((Keep.refl _).alloc _)
  have hba : BBox wa (w0.heap.size + 1) 52 := by
    rw [← hwa]
    have := heap_alloc_new (w0.alloc (.cells #[.pointer (some ⟨fb, 0, none⟩)] 24)) (.cells #[.func (.func 52) #[] #[]] 97)
    rw [show (w0.alloc (.cells #[.pointer (some ⟨fb, 0, none⟩)] 24)).heap.size = w0.heap.size + 1 from by simp] at this
    exact this
  have hl := hid (ha.look1 x hx)
  have ka := hid ka
  have hwah := hid hwa
  clear h ha
  obtain ⟨bf, hbf⟩ : ∃ bf, w0.heap.size = bf := ⟨_, rfl⟩
  obtain ⟨bb, hbb⟩ : ∃ bb, bf + 1 = bb := ⟨_, rfl⟩
  rw [hbf] at hfa hba
  rw [hbb] at hba
  have cfa := hfa.cell
  have cba := hba.cell
  have hfa := hid hfa
  have hba := hid hba
  go_enter Tryd.func50, Tryd.ntmps50
  go_wp2_with fail
  refine hl.out.mono ?_
  rintro e w1 ⟨rfl, nb, N, T, sub, h1, hxN⟩
  have hf1 := hid (hfa.out.keep h1.keep)
  have hb1 := hid (hba.out.keep h1.keep)
  have cf1 := hf1.out.cell
  have cb1 := hb1.out.cell
  have k1 := hid (ka.out.trans h1.keep)
  obtain ⟨X, hX⟩ : ∃ X, x + 1 = X := ⟨_, rfl⟩
  have hX0 : X ≠ 0 := by omega
  have htop := h1.re.top x hxN
  rw [hX] at htop hxN hv
  have htop := hid htop
  have hXh := hid hX
  have hXN : X < N := hxN
  have hv := hid hv
  clear hl hfa hba cfa cba hwa hX hbf hbb
  go_wp2_with fail
  refine htop.out.mono ?_
  rintro e w2 ⟨rfl, T2, sub2, h2, m2, u2, t2⟩
  have hf2 := hid (hf1.out.keep h2.keep)
  have hb2 := hid (hb1.out.keep h2.keep)
  have cf2 := hf2.out.cell
  have cb2 := hb2.out.cell
  have k2 := hid (k1.out.trans h2.keep)
  have c12 := h2.fo.c1
  have q1 : (0 : Int) ≤ (X : Int) := by omega
  have q2 : (X : Int) < (N : Int) := by omega
  have h2 := hid h2
  have u2 := hid u2
  clear htop hf1 hb1 cf1 cb1 m2 t2 h1
  go_wp2_with fail
  have hte : Hid (∀ y, Fo y fb nb n N T2 → Calls Tryd.prog 52 #[.pointer (some ⟨nb, X * 9, none⟩)] y fun e w' => e = .returned (.int .i64 ((T2 X).hi)) ∧ y = w') := hid (fun y hy => tells_high y fb nb n N T2 X hy hXN)
  obtain ⟨W, hW⟩ : ∃ W, (T2 X).hi = W := ⟨_, rfl⟩
  rw [hW] at hte
  have hWh := hid hW
  clear hW
  have hS0 : (w2.drew.cell? ⟨bf, 0, none⟩ = some (.pointer (some ⟨fb, 0, none⟩)) ∧ w2.drew.cell? ⟨bb, 0, none⟩ = some (.func (.func 52) #[] #[]) ∧ w2.drew.cell? ⟨fb, 1, none⟩ = some (.slice (some ⟨nb, 0, none⟩) N N)) := ⟨cf2, cb2, c12⟩
  have h2d := hid h2.out.drew
  have h2a := hid (h2.out.drew.alloc (.cells #[.int .i64 0] 2))
  go_region_held3 (fun w' => w'.cell? ⟨bf, 0, none⟩ = some (.pointer (some ⟨fb, 0, none⟩)) ∧ w'.cell? ⟨bb, 0, none⟩ = some (.func (.func 52) #[] #[]) ∧ w'.cell? ⟨fb, 1, none⟩ = some (.slice (some ⟨nb, 0, none⟩) N N)) (first | assumption | exact hS0 | go_keep) ((go_at_call 52; refine (hte.out _ (by first | exact h2d.out.fo | exact h2a.out.fo)).mono ?_; rintro e w' ⟨rfl, rfl⟩))
  all_goals
    have hroot := h2.out.gd.inv.root X hX0 u2.out
    have hWS : W = highV v (seq X) := by rw [← hWh.out, (h2.out.gd.inv.tal X).hi, hroot]
    have hSne : seq X ≠ [] := fun e => by have := h2.out.gd.inv.self hX0; rw [← hroot, e] at this; cases this
    have hsome : ∃ z, z ∈ seq X ∧ v z = W := by rw [hWS]; exact highV_att v (seq X) hSne hv.out
    have hat : ∀ l, l ≠ [] → (∀ z, z ∈ l → z ∈ seq X) → (highV v l = W ↔ ∃ z, z ∈ l ∧ v z = W) := by rw [hWS]; exact high_at hv.out
    have h3 := (h2.out.alloc (.cells #[.int .i64 W] 2)).drew
    have kk : Keep w2 (w2.alloc (.cells #[.int .i64 W] 2)).drew := ((HS.alloc h2.out.re (.cells #[.int .i64 W] 2)).drew).keep
    have hf3 := hf2.out.keep kk
    have hb3 := hb2.out.keep kk
    have hw3 : WBox (w2.alloc (.cells #[.int .i64 W] 2)).drew w2.heap.size W := heap_alloc_new w2 _
    have kb3 := hid (k2.out.trans kk)
    have cf3 := hf3.cell
    generalize (w2.alloc (.cells #[.int .i64 W] 2)).drew = w3 at h3 hf3 hb3 hw3 kb3 kk cf3 ⊢
    generalize w2.heap.size = bw at hw3 ⊢
    have hseek := hid (HS.fst (tl := highV v) first1_high h3.re X bf bb bw W hX0 hXN u2.out (fun T sub y hi => (hi.tal y).hi) hat hsome hf3 hb3 hw3)
    have hWSh := hid hWS
    clear hroot hWS hSne hsome hat h3 kk hf3 hb3 hw3 hte hS0 h2d h2a cf2 cb2 c12 hf2 hb2 h2 u2
    go_wp2_with fail
    refine hseek.out.mono ?_
    rintro e w4 ⟨p, T4, sub4, rfl, hp0, hpN, h4, hA⟩
    obtain ⟨d, rfl⟩ : ∃ d, p = d + 1 := ⟨p - 1, by omega⟩
    rw [show ((d + 1 : Nat) : Int) = (d : Int) + 1 from by omega]
    have hit := item_ok d (by have := h4.fo.big; omega) w4
    rw [show ((d + 1 : Nat) : Int) = (d : Int) + 1 from by omega] at hit
    have hit := hid hit
    have fin := hid (And.intro h4 hA)
    clear h4 hA hseek cf3
    go_wp2_with fail
    refine hit.out.mono ?_
    rintro e w5 ⟨rfl, rfl⟩
    go_wp2_with fail
    go_ret2
    exact ⟨d, by rw [hXh.out, ← hWSh.out]; exact fin.out.2, rfl, fin.out.1.end_, kb3.out.trans fin.out.1.keep⟩

set_option maxRecDepth 100000 in
theorem FS.most (h : FS lo w fb n v seq w0) (x : Nat) (hx : x < n) (hv : In64 v (seq (x + 1))) :
    Calls Tryd.prog 33 #[.pointer (some ⟨fb, 0, none⟩), .int .i64 (x : Int)] w0 fun e w' => ∃ d : Nat, (∃ A B, seq (x + 1) = A ++ (d + 1) :: B ∧ v (d + 1) = highV v (seq (x + 1)) ∧ ∀ z, z ∈ A → v z ≠ highV v (seq (x + 1))) ∧ e = .returned (.tuple #[.int .i64 (d : Int), .nilIface]) ∧ FS lo w fb n v seq w' ∧ Keep w0 w' := by
  have hf := hid (h.firstM x hx hv)
  clear h hv
  go_enter Tryd.func33, Tryd.ntmps33
  go_wp2_with fail
  refine hf.out.mono ?_
  rintro e w1 ⟨d, hA, rfl, h1, k1⟩
  have fin := hid (And.intro hA (And.intro h1 k1))
  clear hA h1 k1 hf
  go_wp2_with fail
  go_ret2
  exact ⟨d, fin.out.1, rfl, fin.out.2.1, fin.out.2.2⟩

end

end Go.Proofs.YtpelpcplagfdiaaDoor
