/- 'disjoint', 'Of', walked. -/
import Derived.Test.YtjngdecpomogbaaDoorCycles8
namespace Go.Proofs.YtjngdecpomogbaaDoor
open Go.RowKit
set_option linter.unusedVariables false

/-- What 'disjoint' asks. -/
def Dj (n : Nat) (ls : List (List Int)) : Prop := (∀ c, c ∈ ls → c ≠ []) ∧ Part n ls.flatten

theorem Dj.pre {n : Nat} {a b : List (List Int)} (h : Dj n (a ++ b)) : Dj n a :=
  ⟨fun c hc => h.1 c (List.mem_append_left _ hc), by have := h.2; rw [List.flatten_append] at this; exact this.pre⟩

theorem ltake {ls : List (List Int)} {j : Nat} {c : List Int} (h : ls[j]? = some c) : ls.take (j + 1) = ls.take j ++ [c] := by
  rw [List.take_add_one, h]; rfl

set_option maxRecDepth 100000 in
set_option maxHeartbeats 4000000 in
theorem disjoint_ok (v : Value) (n : Nat) (ls : List (List Int)) (w : World) (hv : RV w v ls) (hn : n ≤ 1000) (hm : ls.length ≤ 1000) (hc : ∀ c, c ∈ ls → c.length ≤ 1000) :
    Calls Tryd.prog 27 #[.int .i64 (n : Int), v] w fun e w' => ∃ r, e = .returned (.bool r) ∧ (r = true ↔ Dj n ls) ∧ Below w.heap.size w w' := by
  obtain ⟨i0, hif, hz0, hz1, hz2⟩ := info_parts infoBool
  obtain ⟨ad, m, cap, rfl, ha⟩ := hv
  have hl := hid ha.len
  rw [ha.len] at hm
  have hsl := hid ha
  replace hc := hid hc
  clear ha
  go_enter Tryd.func27, Tryd.ntmps27
  go_wp2_with (at_make; refine wpList_make_full _ rfl (.tmp 10) (.tmp 10) 52 rfl w.heap.size 4 i0 (.bool false) 1 Tryd.underlying52 hif hz0 hz1 .i64 .i64 _ _ n rfl rfl rfl rfl (by rw [hz2]; omega) (by unfold maxLen; omega) (Nat.le_refl _) ?_; intro w1 hown hgrow)
  have hmk : Hid (Mk w.heap.size w w1 (.slice (some ⟨w.heap.size, 0, none⟩) n n) n (seen (ls.take 0).flatten) ∧ Dj n (ls.take 0)) := by
    rw [bl_made] at hown
    have e : bl n (fun _ => false) = bl n (seen (ls.take 0).flatten) := bl_congr (fun i _ => by simp [seen])
    rw [e] at hown
    exact ⟨⟨hown, (Below.refl _ _).grown hgrow (Nat.le_refl _) (by simp), Nat.le_refl _⟩, by simp [Dj, Part]⟩
  clear hown hgrow
  go_wp2_with fail
  go_loopw [7, 9, 14] (fun _ _ u wr => ∃ j : Nat, j ≤ m ∧ u = .int .i64 (j : Int) ∧ Hid (Mk w.heap.size w wr (.slice (some ⟨w.heap.size, 0, none⟩) n n) n (seen (ls.take j).flatten) ∧ Dj n (ls.take j)))
    (fun _ _ u _ => m - (intOf u).toNat)
  case atStart => exact ⟨0, by omega, by go_num, hmk⟩
  case round =>
    obtain ⟨j, hj, rfl, hst⟩ := hrel
    clear hmk
    rcases Nat.lt_or_ge j m with hlt | hge
    · obtain ⟨c, hcj⟩ : ∃ c, ls[j]? = some c := ⟨_, List.getElem?_eq_getElem (by rw [hl.out]; exact hlt)⟩
      obtain ⟨b1, o1, u1, rfl, q0, I1⟩ := hsl.out.cell j c hcj
      have q1 := (hst.out.1.bel.cell (World.block_lt_of_cell? w _ q0)).trans q0
      have hcl := hc.out c (List.mem_of_getElem? hcj)
      have htk := hid (ltake hcj)
      have hpre : Hid (Dj n ls → Dj n (ls.take j ++ [c])) := fun h => by
        rw [← htk.out]
        have h2 : Dj n (ls.take (j + 1) ++ ls.drop (j + 1)) := by rw [List.take_append_drop]; exact h
        exact h2.pre
      obtain ⟨ac, d, cc, rfl, sc⟩ := I1
      have hd := sc.len
      rw [hd] at hcl
      have hcw : Hid (∀ y, Below w.heap.size w y → Sl y ac d c) := fun y hy => sc.below hy
      clear sc hcj q0
      have i1 : (0 : Int) ≤ (j : Int) := by omega
      have i2 : (j : Int) < (m : Int) := by omega
      by_cases h0 : d = 0
      · subst h0
        have hno : Hid (¬ Dj n ls) := fun h => (hpre.out h).1 c (by simp) (List.eq_nil_of_length_eq_zero hd)
        have fin := hid hst.out.1.bel
        clear hst hd
        go_wp2_with fail
        go_ret
        exact ⟨_, rfl, by simp; exact hno.out, fin.out⟩
      · have t1 : ((d : Int) == 0) = false := by simp; omega
        have t2 : ¬ ((d : Int) = 0) := by omega
        replace hd := hid hd
        have hst3 : Hid (Mk w.heap.size w wr (.slice (some ⟨w.heap.size, 0, none⟩) n n) n (seen ((ls.take j).flatten ++ c.take 0)) ∧ Part n ((ls.take j).flatten ++ c.take 0)) := by
          rw [List.take_zero, List.append_nil]
          exact ⟨hst.out.1, hst.out.2.2⟩
        have hdj := hid hst.out.2.1
        clear hst
        go_wp2_with fail
        go_loopw [9, 23] (fun _ u wr => ∃ k : Nat, k ≤ d ∧ u = .int .i64 (k : Int) ∧ Hid (Mk w.heap.size w wr (.slice (some ⟨w.heap.size, 0, none⟩) n n) n (seen ((ls.take j).flatten ++ c.take k)) ∧ Part n ((ls.take j).flatten ++ c.take k)))
          (fun _ u _ => d - (intOf u).toNat)
        case atStart => exact ⟨0, by omega, by go_num, hst3⟩
        case round =>
          obtain ⟨k, hk, rfl, hst⟩ := hrel
          clear hst3 q1
          rcases Nat.lt_or_ge k d with hkd | hkd
          · obtain ⟨z, hz⟩ : ∃ z, c[k]? = some z := ⟨_, List.getElem?_eq_getElem (by rw [hd.out]; exact hkd)⟩
            obtain ⟨b2, o2, rfl, q2⟩ := (hcw.out wr hst.out.1.bel).cell k z hz
            have htk2 : Hid ((ls.take j).flatten ++ c.take (k + 1) = ((ls.take j).flatten ++ c.take k) ++ [z]) := by rw [take_next hz, List.append_assoc]; exact hid rfl
            have j1 : (0 : Int) ≤ (k : Int) := by omega
            have j2 : (k : Int) < (d : Int) := by omega
            rcases hst.out.2.step z with ⟨x, rfl, hx, hp, hpt⟩ | ⟨hbad, hno⟩
            · rw [← htk2.out] at hpt
              replace hpt := hid hpt
              have hmark := hid (mark_yes _ n x w wr _ _ hst.out.1 hx hp hn)
              clear hz hst hp
              go_wp2_with fail
              refine hmark.out.mono ?_
              rintro e w2 ⟨rfl, hm⟩
              rw [seen_on, ← htk2.out] at hm
              replace hm := hid hm
              clear hmark
              go_wp2_with fail
              go_roundw
              case rel => exact ⟨k + 1, by omega, by go_num, hm.out, hpt.out⟩
              case measure => simp [intOf]; omega
            · have hmark := hid (mark_no _ n z w wr _ _ hst.out.1 hbad hn)
              have hno2 : Hid (¬ Dj n ls) := fun h => by
                apply hno
                rw [← htk2.out]
                have h2 := (hpre.out h).2
                rw [List.flatten_append] at h2
                simp only [List.flatten_cons, List.flatten_nil, List.append_nil] at h2
                have h3 : Part n (((ls.take j).flatten ++ c.take (k + 1)) ++ c.drop (k + 1)) := by
                  rw [List.append_assoc, List.take_append_drop]; exact h2
                exact h3.pre
              clear hz hst hbad hno
              go_wp2_with fail
              refine hmark.out.mono ?_
              rintro e w2 ⟨rfl, hm⟩
              replace hm := hid hm
              clear hmark
              go_wp2_with fail
              go_ret
              exact ⟨_, rfl, by simp; exact hno2.out, hm.out.bel⟩
          · obtain rfl : k = d := by omega
            have hnew : Hid (Mk w.heap.size w wr (.slice (some ⟨w.heap.size, 0, none⟩) n n) n (seen (ls.take (j + 1)).flatten) ∧ Dj n (ls.take (j + 1))) := by
              have h1 := hst.out
              rw [List.take_of_length_le (l := c) (by rw [hd.out]; exact Nat.le_refl _)] at h1
              have e : (ls.take (j + 1)).flatten = (ls.take j).flatten ++ c := by rw [htk.out, List.flatten_append]; simp
              rw [e]
              refine ⟨h1.1, fun c' hc' => ?_, by rw [e]; exact h1.2⟩
              rw [htk.out] at hc'
              rcases List.mem_append.1 hc' with h | h
              · exact hdj.out c' h
              · simp at h
                subst h
                intro e0
                have := hd.out
                rw [e0] at this
                simp at this
                omega
            clear hst
            go_wp2_with fail
            go_roundw
            case rel => exact ⟨j + 1, by omega, by go_num, hnew⟩
            case measure => simp [intOf]; omega
    · obtain rfl : j = m := by omega
      have fin : Hid (Dj n ls) := by
        have := hst.out.2
        rw [List.take_of_length_le (by rw [hl.out]; exact Nat.le_refl _)] at this
        exact this
      go_wp2_with fail
      go_ret
      exact ⟨_, rfl, by simp; exact fin.out, hst.out.1.bel⟩

/-- The place ahead, round. -/
def pr (d k : Nat) : Nat := if k = 0 then d - 1 else k - 1

/-- The order, half made: the lists of A, and the first numbers of c. -/
structure Mid (n : Nat) (A : List (List Nat)) (c : List Nat) (k : Nat) (g : Nat → Nat) : Prop where
  on : ∀ c', c' ∈ A → ∀ m z, c'[m]? = some z → c'[(m + 1) % c'.length]? = some (g z)
  now : ∀ i a b, i < k → c[pr c.length i]? = some a → c[i]? = some b → g a = b
  off : ∀ x, x < n → x ∉ A.flatten → (∀ i, i < k → c[pr c.length i]? ≠ some x) → g x = x

theorem Mid.zero {n : Nat} {A : List (List Nat)} {g : Nat → Nat} (h : Nx n A g) (c : List Nat) : Mid n A c 0 g :=
  ⟨h.on, fun i a b hi => by omega, fun x hx hA _ => h.off x hx hA⟩

theorem pr_inj {d i k : Nat} (hi : i < d) (hk : k < d) (e : pr d i = pr d k) : i = k := by
  unfold pr at e
  split at e <;> split at e <;> omega

theorem Mid.step {n : Nat} {A : List (List Nat)} {c : List Nat} {k a0 b0 : Nat} {g : Nat → Nat} (h : Mid n A c k g) (hnd : (A ++ [c]).flatten.Nodup) (hk : k < c.length) (ha : c[pr c.length k]? = some a0) (hb : c[k]? = some b0) : Mid n A c (k + 1) (fun x => if x = a0 then b0 else g x) := by
  rw [List.flatten_append, List.nodup_append] at hnd
  simp only [List.flatten_cons, List.flatten_nil, List.append_nil] at hnd
  obtain ⟨_, hc, hdis⟩ := hnd
  refine ⟨fun c' hc' m z hz => ?_, fun i a b hi h1 h2 => ?_, fun x hx hA hno => ?_⟩
  · have hne : z ≠ a0 := hdis z (List.mem_flatten.2 ⟨c', hc', List.mem_of_getElem? hz⟩) a0 (List.mem_of_getElem? ha)
    rw [if_neg hne]
    exact h.on c' hc' m z hz
  · by_cases e : i = k
    · subst e
      rw [ha] at h1
      rw [hb] at h2
      rw [← Option.some.inj h1, ← Option.some.inj h2, if_pos rfl]
    · have hne : a ≠ a0 := fun e2 => by
        subst e2
        exact e (pr_inj (show i < c.length by omega) hk (nodup_at hc h1 ha))
      rw [if_neg hne]
      exact h.now i a b (by omega) h1 h2
  · have hne : x ≠ a0 := fun e2 => hno k (by omega) (e2 ▸ ha)
    rw [if_neg hne]
    exact h.off x hx hA (fun i hi => hno i (by omega))

theorem Mid.done {n : Nat} {A : List (List Nat)} {c : List Nat} {g : Nat → Nat} (h : Mid n A c c.length g) : Nx n (A ++ [c]) g := by
  refine ⟨fun c' hc' m z hz => ?_, fun x hx hm => ?_⟩
  · rcases List.mem_append.1 hc' with h1 | h1
    · exact h.on c' h1 m z hz
    · simp at h1
      subst h1
      have hml := (List.getElem?_eq_some_iff.1 hz).1
      have hl : (m + 1) % c'.length < c'.length := Nat.mod_lt _ (by omega)
      have hp : pr c'.length ((m + 1) % c'.length) = m := by
        unfold pr
        by_cases e : m + 1 = c'.length
        · rw [e, Nat.mod_self, if_pos rfl]; omega
        · rw [Nat.mod_eq_of_lt (by omega), if_neg (by omega)]; omega
      obtain ⟨b, hb⟩ : ∃ b, c'[(m + 1) % c'.length]? = some b := ⟨_, List.getElem?_eq_getElem hl⟩
      rw [hb, h.now _ z b hl (by rw [hp]; exact hz) hb]
  · rw [List.flatten_append] at hm
    simp only [List.flatten_cons, List.flatten_nil, List.append_nil, List.mem_append, not_or] at hm
    exact h.off x hx hm.1 (fun i _ e => hm.2 (List.mem_of_getElem? e))

theorem cls_flatten : ∀ (ms : List (List Nat)), (cls ms).flatten = cl ms.flatten
  | [] => rfl
  | c :: ms => by
    show cl c ++ (cls ms).flatten = cl (c ++ ms.flatten)
    rw [cls_flatten ms, cl_append]

theorem Dj.cs {n : Nat} {ms : List (List Nat)} : Dj n (cls ms) ↔ Cs n ms := by
  unfold Dj Part
  rw [cls_flatten, cl_nodup]
  constructor
  · rintro ⟨h1, h2, h3⟩
    refine ⟨fun c hc e => h1 (cl c) (List.mem_map.2 ⟨c, hc, rfl⟩) (by rw [e]; rfl), fun x hx => ?_, h2⟩
    have := h3 (x : Int) (mem_cl.2 hx)
    omega
  · rintro ⟨h1, h2, h3⟩
    refine ⟨fun c hc e => ?_, h3, fun z hz => ?_⟩
    · obtain ⟨c', hc', rfl⟩ := List.mem_map.1 hc
      have : c'.length = 0 := by have := congrArg List.length e; simpa using this
      exact h1 c' hc' (List.eq_nil_of_length_eq_zero this)
    · obtain ⟨j, hj⟩ := List.getElem?_of_mem hz
      obtain ⟨k, hk, rfl⟩ := cl_get' hj
      have := h2 k (List.mem_of_getElem? hk)
      omega

theorem cl_of {zs : List Int} (h : ∀ z, z ∈ zs → 0 ≤ z) : zs = cl (zs.map Int.toNat) := by
  unfold cl
  rw [List.map_map]
  conv => lhs; rw [← List.map_id zs]
  exact List.map_congr_left (fun z hz => by have := h z hz; simp; omega)

theorem Dj.nat {n : Nat} {ls : List (List Int)} (h : Dj n ls) : ∃ ms, ls = cls ms ∧ Cs n ms := by
  have e : ls = cls (ls.map (fun c => c.map Int.toNat)) := by
    unfold cls
    rw [List.map_map]
    conv => lhs; rw [← List.map_id ls]
    exact List.map_congr_left (fun c hc => cl_of (fun z hz => (h.2.2 z (List.mem_flatten.2 ⟨c, hc, hz⟩)).1))
  refine ⟨_, e, ?_⟩
  rw [e] at h
  exact Dj.cs.1 h

theorem Cs.nil_nx (n : Nat) : Nx n [] (fun i => i) := ⟨fun c hc => by simp at hc, fun x _ _ => rfl⟩

theorem mtake {ms : List (List Nat)} {j : Nat} {c : List Nat} (h : ms[j]? = some c) : ms.take (j + 1) = ms.take j ++ [c] := by
  rw [List.take_add_one, h]; rfl

theorem Cs.pre {n : Nat} {ms : List (List Nat)} (h : Cs n ms) (j : Nat) : (ms.take j).flatten.Nodup := by
  have := h.nd
  rw [← List.take_append_drop j ms, List.flatten_append] at this
  exact (List.nodup_append.1 this).1

theorem cls_at {ms : List (List Nat)} {j : Nat} {c : List Nat} (h : ms[j]? = some c) : (cls ms)[j]? = some (cl c) := by simp [cls, h]

set_option maxRecDepth 100000 in
set_option maxHeartbeats 4000000 in
theorem of_yes (v : Value) (n : Nat) (ms : List (List Nat)) (w : World) (hv : RV w v (cls ms)) (h : Cs n ms) (hn : n ≤ 1000) (hm : ms.length ≤ 1000) (hc : ∀ c, c ∈ ms → c.length ≤ 1000) :
    Calls Tryd.prog 22 #[.int .i64 (n : Int), v] w fun e w' => ∃ u g, e = .returned (.tuple #[u, .nilIface]) ∧ Nx n ms g ∧ Rw w.heap.size w' u (fl n g) ∧ Below w.heap.size w w' := by
  obtain ⟨i0, hif, hz0, hz1, hz2⟩ := info_parts infoInt
  have hdj := hid (disjoint_ok v n (cls ms) w hv hn (by simp [cls]; exact hm) (fun c hcc => by
    obtain ⟨c', h1, rfl⟩ := List.mem_map.1 hcc
    simp; exact hc c' h1))
  have hh := hid h
  replace hc := hid hc
  obtain ⟨ad, m, cap, rfl, ha⟩ := hv
  have hl : Hid (ms.length = m) := by have := ha.len; simp [cls] at this; exact this
  rw [hl.out] at hm
  replace ha := hid ha
  have g1 : ¬ ((n : Int) < 0) := by omega
  have g2 : ¬ ((4194304 : Int) < (n : Int)) := by omega
  clear h
  go_enter Tryd.func22, Tryd.ntmps22
  go_wp2_with fail
  refine hdj.out.mono ?_
  rintro e w1 ⟨r, rfl, hr, b1⟩
  obtain rfl : r = true := hr.2 (Dj.cs.2 hh.out)
  have hsz := b1.size
  replace b1 := hid b1
  clear hdj hr
  go_wp2_with (at_make; refine wpList_make_full _ rfl (.tmp 25) (.tmp 25) 22 rfl w.heap.size 3 i0 (.int .i64 0) 1 Tryd.underlying22 hif hz0 hz1 .i64 .i64 _ _ n rfl rfl rfl rfl (by rw [hz2]; omega) (by unfold maxLen; omega) hsz ?_; intro w2 hown hgrow)
  have hst0 : Hid (w2.ownsRow w.heap.size 3 1 (.slice (some ⟨w1.heap.size, 0, none⟩) n n) n (ics (fl n (fun i => if i < 0 then i else 0))) ∧ Below w.heap.size w w2) := by
    rw [ics_made] at hown
    exact ⟨by rw [show fl n (fun i => if i < 0 then i else 0) = fl n (fun _ => 0) from fl_congr (fun i _ => by simp)]; exact hown, b1.out.grown hgrow hsz (by simp)⟩
  clear hown hgrow
  go_wp2_with fail
  go_loopw [7, 29] (fun _ u wr => ∃ j : Nat, j ≤ n ∧ u = .int .i64 (j : Int) ∧ Hid (wr.ownsRow w.heap.size 3 1 (.slice (some ⟨w1.heap.size, 0, none⟩) n n) n (ics (fl n (fun i => if i < j then i else 0))) ∧ Below w.heap.size w wr))
    (fun _ u _ => n - (intOf u).toNat)
  case atStart => exact ⟨0, by omega, by go_num, hst0⟩
  case round =>
    obtain ⟨j, hj, rfl, hst⟩ := hrel
    clear hst0
    rcases Nat.lt_or_ge j n with hlt | hge
    · have hnext : Hid (fl n (fun i => if i = j then j else if i < j then i else 0) = fl n (fun i => if i < j + 1 then i else 0)) := hid (fl_congr (fun i _ => by
        by_cases e : i = j
        · subst e; simp
        · rw [if_neg e]
          by_cases h1 : i < j
          · rw [if_pos h1, if_pos (by omega)]
          · rw [if_neg h1, if_neg (by omega)]))
      obtain ⟨s1, s2⟩ := hst.out.1.stored j (.int .i64 (j : Int))
      rw [ics_set, hnext.out] at s1
      have hfz := hst.out.1.frozenAt j
      have hold : wr.cell? ⟨w1.heap.size, j, none⟩ = some (.int .i64 0) := by rw [hst.out.1.cellAt _ (by omega), ics_get hlt]; simp
      have hnew := hid (And.intro s1 (below_grown hst.out.2 (Nat.le_refl _) hst.out.1 (Nat.le_refl _) s2))
      clear s1 s2 hst hnext
      have i1 : (0 : Int) ≤ (j : Int) := by omega
      have i2 : (j : Int) < (n : Int) := by omega
      go_wp2_with fail
      go_roundw
      case rel => exact ⟨j + 1, by omega, by go_num, hnew⟩
      case measure => simp [intOf]; omega
    · obtain rfl : j = n := by omega
      have hst1 : Hid (∃ g, Nx j (ms.take 0) g ∧ wr.ownsRow w.heap.size 3 1 (.slice (some ⟨w1.heap.size, 0, none⟩) j j) j (ics (fl j g)) ∧ Below w.heap.size w wr) := by
        refine ⟨fun i => i, Cs.nil_nx j, ?_, hst.out.2⟩
        have := hst.out.1
        rw [show fl j (fun i => if i < j then i else 0) = fl j (fun i => i) from fl_congr (fun i hi => if_pos hi)] at this
        exact this
      clear hst hge hj
      go_wp2_with fail
      go_loopw [9, 10, 12, 39] (fun _ _ _ u wr => ∃ k : Nat, k ≤ m ∧ u = .int .i64 (k : Int) ∧ Hid (∃ g, Nx j (ms.take k) g ∧ wr.ownsRow w.heap.size 3 1 (.slice (some ⟨w1.heap.size, 0, none⟩) j j) j (ics (fl j g)) ∧ Below w.heap.size w wr))
        (fun _ _ _ u _ => m - (intOf u).toNat)
      case atStart => exact ⟨0, by omega, by go_num, hst1⟩
      case round =>
        obtain ⟨k, hk, rfl, hst⟩ := hrel
        clear hst1
        rcases Nat.lt_or_ge k m with hlt | hge
        · obtain ⟨c, hcj⟩ : ∃ c, ms[k]? = some c := ⟨_, List.getElem?_eq_getElem (by rw [hl.out]; exact hlt)⟩
          obtain ⟨g, hnx, hrow, hbw⟩ := hst.out
          obtain ⟨b1', o1, u1, rfl, q0, I1⟩ := ha.out.cell k _ (cls_at hcj)
          have q1 := (hbw.cell (World.block_lt_of_cell? w _ q0)).trans q0
          have hcm := List.mem_of_getElem? hcj
          have hcl := hc.out c hcm
          have hne := hh.out.ne c hcm
          have htk := hid (mtake hcj)
          have hnd : Hid ((ms.take k ++ [c]).flatten.Nodup) := by rw [← htk.out]; exact hid (hh.out.pre _)
          have hcn : Hid (∀ z, z ∈ c → z < j) := fun z hz => hh.out.lt z (List.mem_flatten.2 ⟨c, hcm, hz⟩)
          obtain ⟨ac, d, cc, rfl, sc⟩ := I1
          have hd : c.length = d := by have := sc.len; simpa using this
          have hd1 : 1 ≤ d := by
            rcases Nat.eq_zero_or_pos d with h0 | h0
            · exact absurd (List.eq_nil_of_length_eq_zero (hd.trans h0)) hne
            · exact h0
          have hcw : Hid (∀ y, Below w.heap.size w y → Sl y ac d (cl c)) := fun y hy => sc.below hy
          obtain ⟨z0, hz0'⟩ : ∃ z0, c[d - 1]? = some z0 := ⟨_, List.getElem?_eq_getElem (by omega)⟩
          obtain ⟨bc, oc, rfl, q2⟩ := (hcw.out wr hbw).cell (d - 1) _ (cl_get hz0')
          rw [hd] at hcl
          have hst2 : Hid (∃ a, c[pr d 0]? = some a ∧ Value.int .i64 (z0 : Int) = .int .i64 (a : Int) ∧ ∃ g, Mid j (ms.take k) c 0 g ∧ wr.ownsRow w.heap.size 3 1 (.slice (some ⟨w1.heap.size, 0, none⟩) j j) j (ics (fl j g)) ∧ Below w.heap.size w wr) :=
            ⟨z0, hz0', rfl, g, Mid.zero hnx c, hrow, hbw⟩
          replace hd := hid hd
          have i1 : (0 : Int) ≤ (k : Int) := by omega
          have i2 : (k : Int) < (m : Int) := by omega
          have i4 : (d : Int) - 1 < (d : Int) := by omega
          have i5 : (0 : Int) ≤ (d : Int) - 1 := by omega
          clear hst sc hcj q0 hne hnx hrow hbw hcm
          replace hz0' := hid hz0'
          go_wp2_with fail
          go_loopw [10, 12, 51] (fun t _ u wr => ∃ i : Nat, i ≤ d ∧ u = .int .i64 (i : Int) ∧ Hid (∃ a, c[pr d i]? = some a ∧ t = .int .i64 (a : Int) ∧ ∃ g, Mid j (ms.take k) c i g ∧ wr.ownsRow w.heap.size 3 1 (.slice (some ⟨w1.heap.size, 0, none⟩) j j) j (ics (fl j g)) ∧ Below w.heap.size w wr))
            (fun _ _ u _ => d - (intOf u).toNat)
          case atStart => exact ⟨0, by omega, by go_num, hst2⟩
          case round =>
            obtain ⟨i, hi, rfl, hst⟩ := hrel
            clear hst2 q1 q2
            rcases Nat.lt_or_ge i d with hid' | hid'
            · obtain ⟨a, ha1, rfl, g, hmid, hrow, hbw⟩ := hst.out
              obtain ⟨z, hz⟩ : ∃ z, c[i]? = some z := ⟨_, List.getElem?_eq_getElem (by rw [hd.out]; exact hid')⟩
              have han := hcn.out a (List.mem_of_getElem? ha1)
              have hstep := hmid.step hnd.out (by rw [hd.out]; exact hid') (by rw [hd.out]; exact ha1) hz
              obtain ⟨b2, o2, e2, q3⟩ := (hcw.out wr hbw).cell i _ (cl_get hz)
              obtain ⟨rfl, rfl⟩ : bc = b2 ∧ oc = o2 := by simpa using e2
              obtain ⟨s1, s2⟩ := hrow.stored a (.int .i64 (z : Int))
              rw [ics_set] at s1
              have hfz := hrow.frozenAt a
              have hold : wr.cell? ⟨w1.heap.size, a, none⟩ = some (.int .i64 (g a : Int)) := by rw [hrow.cellAt _ (by omega), ics_get han]
              have hpr : c[pr d (i + 1)]? = some z := by unfold pr; rw [if_neg (by omega)]; exact hz
              have hnew : Hid (∃ a', c[pr d (i + 1)]? = some a' ∧ Value.int .i64 (z : Int) = .int .i64 (a' : Int) ∧ ∃ g, Mid j (ms.take k) c (i + 1) g ∧ (wr.setCell ⟨w1.heap.size, a, none⟩ (.int .i64 (z : Int))).ownsRow w.heap.size 3 1 (.slice (some ⟨w1.heap.size, 0, none⟩) j j) j (ics (fl j g)) ∧ Below w.heap.size w (wr.setCell ⟨w1.heap.size, a, none⟩ (.int .i64 (z : Int)))) := hid ⟨z, hpr, rfl, _, hstep, s1, below_grown hbw (Nat.le_refl _) hrow (Nat.le_refl _) s2⟩
              generalize g a = old at hold
              clear hst s1 s2 hrow hbw hmid hstep hz ha1 hpr e2
              have j1 : (0 : Int) ≤ (i : Int) := by omega
              have j2 : (i : Int) < (d : Int) := by omega
              have j3 : (0 : Int) ≤ (a : Int) := by omega
              have j4 : (a : Int) < (j : Int) := by omega
              go_wp2_with fail
              go_roundw
              case rel => exact ⟨i + 1, by omega, by go_num, hnew⟩
              case measure => simp [intOf]; omega
            · obtain rfl : i = d := by omega
              have hnew : Hid (∃ g, Nx j (ms.take (k + 1)) g ∧ wr.ownsRow w.heap.size 3 1 (.slice (some ⟨w1.heap.size, 0, none⟩) j j) j (ics (fl j g)) ∧ Below w.heap.size w wr) := by
                obtain ⟨a, ha1, _, g, hmid, hrow, hbw⟩ := hst.out
                rw [← hd.out] at hmid
                exact ⟨g, by rw [htk.out]; exact hmid.done, hrow, hbw⟩
              clear hst
              go_wp2_with fail
              go_roundw
              case rel => exact ⟨k + 1, by omega, by go_num, hnew⟩
              case measure => simp [intOf]; omega
        · obtain rfl : k = m := by omega
          have fin : Hid (∃ g, Nx j ms g ∧ Rw w.heap.size wr (.slice (some ⟨w1.heap.size, 0, none⟩) j j) (fl j g) ∧ Below w.heap.size w wr) := by
            obtain ⟨g, h1, h2, h3⟩ := hst.out
            rw [List.take_of_length_le (l := ms) (by rw [hl.out]; exact Nat.le_refl _)] at h1
            exact ⟨g, h1, by unfold Rw; rw [fl_length]; exact h2, h3⟩
          clear hst
          go_wp2_with fail
          go_ret2
          obtain ⟨g, h1, h2, h3⟩ := fin.out
          exact ⟨_, g, rfl, h1, h2, h3⟩

set_option maxRecDepth 100000 in
set_option maxHeartbeats 1000000 in
theorem of_no (v : Value) (n : Nat) (ls : List (List Int)) (w : World) (hv : RV w v ls) (h : ¬ Dj n ls) (hn : n ≤ 1000) (hm : ls.length ≤ 1000) (hc : ∀ c, c ∈ ls → c.length ≤ 1000) :
    Calls Tryd.prog 22 #[.int .i64 (n : Int), v] w fun e w' => e = .returned (.tuple #[.slice none 0 0, .iface 49 (.int .i64 3)]) ∧ Below w.heap.size w w' := by
  have hdj := hid (disjoint_ok v n ls w hv hn hm hc)
  have g1 : ¬ ((n : Int) < 0) := by omega
  have g2 : ¬ ((4194304 : Int) < (n : Int)) := by omega
  go_enter Tryd.func22, Tryd.ntmps22
  go_wp2_with fail
  refine hdj.out.mono ?_
  rintro e w1 ⟨r, rfl, hr, b1⟩
  obtain rfl : r = false := by cases r with
    | true => exact absurd (hr.1 rfl) h
    | false => rfl
  replace b1 := hid b1
  clear hdj hr
  go_wp2_with fail
  go_ret2
  exact ⟨rfl, b1.out⟩

set_option maxRecDepth 100000 in
set_option maxHeartbeats 1000000 in
theorem of_long (v : Value) (n : Int) (w : World) (h : n < 0 ∨ (0 ≤ n ∧ 4194304 < n)) :
    Calls Tryd.prog 22 #[.int .i64 n, v] w fun e w' => e = .returned (.tuple #[.slice none 0 0, .iface 49 (.int .i64 2)]) ∧ w = w' := by
  rcases h with h | ⟨h0, h⟩
  · go_enter Tryd.func22, Tryd.ntmps22
    go_wp2_with fail
    go_ret2
    exact ⟨rfl, rfl⟩
  · have g1 : ¬ (n < 0) := by omega
    go_enter Tryd.func22, Tryd.ntmps22
    go_wp2_with fail
    go_ret2
    exact ⟨rfl, rfl⟩

end Go.Proofs.YtjngdecpomogbaaDoor
