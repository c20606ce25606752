/- sphere's check: the first error of a list of vertices; the library's IndexFunc and ContainsFunc over its closure. -/
import Derived.Test.YtboafgimjadboaaGreatDoorBsmall
import Derived.Test.YtboafgimjadboaaGreatDoorRCheck12
namespace Go.Proofs.YtboafgimjadboaaGreatDoor
open Go.RowKit
set_option linter.unusedVariables false

/-- No vertex. -/
def oor (V : Nat) (z : Int) : Bool := decide (z < 0) || decide ((V : Int) ≤ z)

set_option maxRecDepth 100000 in
theorem chkf_ok (z : Int) (V pb : Nat) (w : World) (c0 : w.cell? ⟨pb, 0, none⟩ = some (.int .i64 (V : Int))) :
    Calls Tryz.prog 125 #[.int .i64 z, .pointer (some ⟨pb, 0, none⟩)] w fun x w' => x = .returned (.bool (oor V z)) ∧ Below w.heap.size w w' := by
  by_cases h0 : z < 0
  · have e : oor V z = true := by simp [oor, h0]
    have t1 : decide (z < 0) = true := decide_eq_true h0
    rw [e]
    clear e
    go_enter Tryz.func125, Tryz.ntmps125
    go_wp2_with fail
    go_ret
    exact ⟨rfl, Below.refl _ _⟩
  · have t1 : decide (z < 0) = false := decide_eq_false h0
    obtain ⟨s, hs⟩ : ∃ s, decide ((V : Int) ≤ z) = s := ⟨_, rfl⟩
    have t2 : decide (z ≥ (V : Int)) = s := hs
    have e : oor V z = s := by unfold oor; rw [t1, hs]; rfl
    rw [e]
    clear e
    go_enter Tryz.func125, Tryz.ntmps125
    go_wp2_with fail
    go_ret
    exact ⟨by first | rfl | simp [hs], Below.refl _ _⟩

set_option maxRecDepth 100000 in
set_option maxHeartbeats 2000000 in
theorem indexf_ok (vv : Value) (zs : List Int) (V pb : Nat) (w : World) (hL : IV w vv zs) (c0 : w.cell? ⟨pb, 0, none⟩ = some (.int .i64 (V : Int))) :
    Calls Tryz.prog 136 #[vv, .func (.func 125) #[] #[.pointer (some ⟨pb, 0, none⟩)]] w fun e w' => ∃ z : Int, e = .returned (.int .i64 z) ∧ decide (0 ≤ z) = zs.any (oor V) ∧ Below w.heap.size w w' := by
  obtain ⟨ad, n, cap, rfl, hsl⟩ := hL
  have hlen := hid hsl.len
  have hbig := hsl.big
  have hC : Hid (∀ y, Below w.heap.size w y → ∀ (j : Nat) z, zs[j]? = some z → ∃ b o, ad = some ⟨b, o, none⟩ ∧ y.cell? ⟨b, o + j, none⟩ = some (.int .i64 z)) := hid (fun y hy j z hz => by
    obtain ⟨b, o, e, c⟩ := hsl.cell j z hz
    exact ⟨b, o, e, (hy.cell (World.block_lt_of_cell? _ _ c)).trans c⟩)
  have hF : Hid (∀ y, Below w.heap.size w y → ∀ z : Int, Calls Tryz.prog 125 #[.int .i64 z, .pointer (some ⟨pb, 0, none⟩)] y fun x w' => x = .returned (.bool (oor V z)) ∧ Below y.heap.size y w') := hid (fun y hy z => chkf_ok z V pb y ((hy.cell (World.block_lt_of_cell? _ _ c0)).trans c0))
  clear hsl c0
  go_enter Tryz.func136, Tryz.ntmps136
  go_wp2_with fail
  go_loopw [5, 8] (fun _ u wr => ∃ i : Nat, i ≤ n ∧ u = .int .i64 (i : Int) ∧ Hid (∀ z, z ∈ zs.take i → oor V z = false) ∧ Hid (Below w.heap.size w wr)) (fun _ u _ => n - (intOf u).toNat)
  case atStart => exact ⟨0, by omega, by go_num, hid (fun x hx => by simp at hx), Below.refl _ _⟩
  case round =>
    obtain ⟨i, hi, rfl, hall, hbw⟩ := hrel
    rcases Nat.lt_or_ge i n with hlt | hge
    · obtain ⟨z, hz⟩ : ∃ z, zs[i]? = some z := ⟨_, List.getElem?_eq_getElem (by rw [hlen.out]; exact hlt)⟩
      obtain ⟨b, o, rfl, cz⟩ := hC.out _ hbw.out i z hz
      have hzm := hid (List.mem_of_getElem? hz)
      have i1 : (0 : Int) ≤ (i : Int) := by omega
      have i2 : (i : Int) < (n : Int) := by omega
      have v1 : decide ((i : Int) < (n : Int)) = true := decide_eq_true (by omega)
      have htk : Hid (∀ x, x ∈ zs.take (i + 1) → x ∈ zs.take i ∨ x = z) := hid (fun x hx => by
        rw [List.take_add_one, hz] at hx
        rcases List.mem_append.1 hx with q | q
        · exact .inl q
        · simp at q; exact .inr q)
      have hc := hid (hF.out _ hbw.out z)
      obtain ⟨s, hs⟩ : ∃ s, oor V z = s := ⟨_, rfl⟩
      rw [hs] at hc
      replace hs := hid hs
      clear hz
      go_wp2_with fail
      refine hc.out.mono ?_
      rintro e w2 ⟨rfl, b2⟩
      have hb2 := hid (hbw.out.trans (b2.mono hbw.out.size))
      clear b2 hc cz
      cases s with
      | true =>
        have fin : Hid (zs.any (oor V) = true) := hid (List.any_eq_true.2 ⟨z, hzm.out, hs.out⟩)
        go_wp2_with fail
        go_ret
        exact ⟨_, rfl, by rw [fin.out]; exact decide_eq_true i1, hb2.out⟩
      | false =>
        have hall2 : Hid (∀ x, x ∈ zs.take (i + 1) → oor V x = false) := hid (fun x hx => by
          rcases htk.out x hx with q | q
          · exact hall.out x q
          · subst q; exact hs.out)
        clear hall htk
        go_wp2_with fail
        go_roundw
        case rel => exact ⟨i + 1, by omega, by go_num, hall2, hb2⟩
        case measure => simp [intOf]; omega
    · obtain rfl : i = n := by omega
      have v1 : decide ((i : Int) < (i : Int)) = false := decide_eq_false (by omega)
      have fin : Hid (zs.any (oor V) = false) := hid (by
        rw [List.any_eq_false]
        intro x hx
        have h := hall.out x (by rw [List.take_of_length_le (by rw [hlen.out]; exact Nat.le_refl _)]; exact hx)
        rw [h]
        simp)
      clear hall
      go_wp2_with fail
      go_ret
      exact ⟨_, rfl, by rw [fin.out]; rfl, hbw.out⟩

set_option maxRecDepth 100000 in
theorem contf_ok (vv : Value) (zs : List Int) (V pb : Nat) (w : World) (hL : IV w vv zs) (c0 : w.cell? ⟨pb, 0, none⟩ = some (.int .i64 (V : Int))) :
    Calls Tryz.prog 124 #[vv, .func (.func 125) #[] #[.pointer (some ⟨pb, 0, none⟩)]] w fun e w' => e = .returned (.bool (zs.any (oor V))) ∧ Below w.heap.size w w' := by
  have hc := hid (indexf_ok vv zs V pb w hL c0)
  clear hL c0
  go_enter Tryz.func124, Tryz.ntmps124
  go_wp2_with fail
  refine hc.out.mono ?_
  rintro e w2 ⟨z, rfl, hz, b2⟩
  replace b2 := hid b2
  replace hz := hid hz
  clear hc
  go_wp2_with fail
  go_ret
  exact ⟨by rw [← hz.out]; rfl, b2.out⟩

/-- An error's number, as it is returned. -/
def Er (c : Int) (r : Value) : Prop := (c = 0 ∧ r = .nilIface) ∨ (c ≠ 0 ∧ r = .iface 67 (.int .i64 c))

section
variable {w : World} {lo tb V E : Nat} {R : Nat → List Nat}

set_option maxRecDepth 100000 in
set_option maxHeartbeats 8000000 in
theorem scheck_any (h : TA w lo tb V E R) (vv : Value) (zs : List Int) (hL : IV w vv zs) (hln : zs.length ≤ 1000) :
    Calls Tryz.prog 105 #[.pointer (some ⟨tb, 0, none⟩), vv] w fun e w' => ∃ c r, e = .returned r ∧ Er c r ∧ Ck12 V R zs c ∧ Below w.heap.size w w' := by
  obtain ⟨i0, hif, hz0, hz1, hz2⟩ := info_parts infoBool
  have hV := h.hV
  have hs := hid (sizes_ok h)
  have hba := hid (fun (v : Nat) (s : Bool) (hv : v < V) (hs : s = true ↔ R v = []) y (hy : Below w.heap.size w y) => bare_ok (h.more hy) v hv s hs)
  have hIV := hid hL
  obtain ⟨lad, n, lcap, rfl, hsl⟩ := hL
  have hlen := hid hsl.len
  have hn : n ≤ 1000 := by rw [← hlen.out]; exact hln
  have hC : Hid (∀ y, Below w.heap.size w y → ∀ (j : Nat) z, zs[j]? = some z → ∃ b o, lad = some ⟨b, o, none⟩ ∧ y.cell? ⟨b, o + j, none⟩ = some (.int .i64 z)) := hid (fun y hy j z hz => by
    obtain ⟨b, o, e, c⟩ := hsl.cell j z hz
    exact ⟨b, o, e, (hy.cell (World.block_lt_of_cell? _ _ c)).trans c⟩)
  clear h hsl hln
  go_enter Tryz.func105, Tryz.ntmps105
  go_wp2_with fail
  refine hs.out.mono ?_
  rintro e w1 ⟨rfl, m1, rfl⟩
  have b1 := hid (belowN (Below.refl w.heap.size w) m1)
  obtain ⟨w1, hw1⟩ : ∃ w1, w.drewN m1 = w1 := ⟨_, rfl⟩
  rw [hw1] at b1 ⊢
  clear hs hw1
  go_upto_region 4 with fail
  obtain ⟨w2, hw2⟩ : ∃ w2, w1.alloc (.cells #[.int .i64 (V : Int)] 3) = w2 := ⟨_, rfl⟩
  have hcl : w2.cell? ⟨w1.heap.size, 0, none⟩ = some (.int .i64 (V : Int)) := by rw [← hw2]; exact cell_one_new _ _ _ 0 _ rfl
  have b2 := hid (b1.out.alloc b1.out.size (.cells #[.int .i64 (V : Int)] 3))
  rw [hw2] at b2
  first | rw [hw2] | skip
  have hcf := hid (contf_ok _ zs V w1.heap.size w2 (hIV.out.below b2.out) hcl)
  have hX : Hid (∀ y, Below w2.heap.size w2 y → y.cell? ⟨w1.heap.size, 0, none⟩ = some (.int .i64 (V : Int))) := hid (fun y hy => (hy.cell (World.block_lt_of_cell? _ _ hcl)).trans hcl)
  clear hw2 hcl hIV
  go_wp2_with fail
  refine hcf.out.mono ?_
  rintro e w3 ⟨rfl, b3⟩
  have c3 := hX.out _ b3
  replace b3 := hid (b2.out.trans (b3.mono b2.out.size))
  clear hcf hX
  cases hany : zs.any (oor V) with
  | true =>
    have fin : Hid (Ck12 V R zs 12) := hid (by
      obtain ⟨x, hx, hq⟩ := List.any_eq_true.1 hany
      refine .inl ⟨rfl, x, hx, ?_⟩
      unfold oor at hq
      simpa using hq)
    clear hany
    go_wp2_with fail
    go_ret
    exact ⟨12, _, rfl, .inr ⟨by omega, rfl⟩, fin.out, b3.out⟩
  | false =>
    obtain ⟨l, hzl, hlV⟩ := int_list (V := V) (zs := zs) (fun x hx q => by
      have := List.any_eq_false.1 hany x hx
      unfold oor at this
      simp only [Bool.or_eq_true, decide_eq_true_eq] at this
      exact this q)
    have hll : Hid (l.length = n) := hid (by rw [← hlen.out, hzl]; simp)
    have hget : Hid (∀ (j : Nat) x, l[j]? = some x → zs[j]? = some (x : Int)) := hid (fun j x hx => by rw [hzl]; simp [hx])
    have hzl' := hid hzl
    replace hlV := hid hlV
    clear hzl hany
    have hsz := Nat.le_refl w3.heap.size
    go_wp2_with (at_make; refine wpList_make_full _ rfl (.tmp 24) (.tmp 24) 112 rfl w3.heap.size 4 i0 (.bool false) 1 Tryz.underlying112 hif hz0 hz1 .i64 .i64 _ _ V rfl rfl rfl rfl (by rw [hz2]; omega) (by unfold maxLen; omega) hsz ?_; intro w4 hown hgrow)
    have hmk4 : Hid (Mk w3.heap.size w3 w4 (.slice (some ⟨w3.heap.size, 0, none⟩) V V) V (marks (l.take 0))) := by
      rw [bl_made] at hown
      refine ⟨?_, (Below.refl w3.heap.size w3).grown hgrow hsz (by simp), Nat.le_refl _⟩
      rw [show bl V (marks (l.take 0)) = bl V (fun _ => false) from bl_congr (fun i _ => by simp [marks])]
      exact hown
    clear hown hgrow
    go_wp2_with fail
    go_loopw [9, 28] (fun _ u wr => ∃ j : Nat, j ≤ n ∧ u = .int .i64 (j : Int) ∧ Hid ((l.take j).Nodup) ∧ Hid (Mk w3.heap.size w3 wr (.slice (some ⟨w3.heap.size, 0, none⟩) V V) V (marks (l.take j)))) (fun _ u _ => n - (intOf u).toNat)
    case atStart => exact ⟨0, by omega, by go_num, hid (by simp), hmk4⟩
    case round =>
      obtain ⟨j, hj, rfl, hnd, hmk⟩ := hrel
      clear hmk4
      have hbw := hid (b3.out.trans (hmk.out.bel.mono b3.out.size))
      rcases Nat.lt_or_ge j n with hjl | hjg
      · obtain ⟨x, hx⟩ : ∃ x, l[j]? = some x := ⟨_, List.getElem?_eq_getElem (by rw [hll.out]; exact hjl)⟩
        have hxV := hlV.out x (List.mem_of_getElem? hx)
        obtain ⟨b, o, rfl, cx⟩ := hC.out _ hbw.out j _ (hget.out j x hx)
        have j1 : (0 : Int) ≤ (j : Int) := by omega
        have j2 : (j : Int) < (n : Int) := by omega
        have j3 : (0 : Int) ≤ (x : Int) := by omega
        have j4 : (x : Int) < (V : Int) := by omega
        have v2 : decide ((j : Int) < (n : Int)) = true := decide_eq_true (by omega)
        have hold : wr.cell? ⟨w3.heap.size, x, none⟩ = some (.bool (marks (l.take j) x)) := by rw [hmk.out.row.cellAt x (by omega), bl_get hxV]
        have hfz := hmk.out.row.frozenAt x
        by_cases hm : x ∈ l.take j
        · have fin : Hid (Ck12 V R zs 20) := by
            refine hid (.inr ⟨l, hzl'.out, hlV.out, .inl ⟨rfl, fun q => ?_⟩⟩)
            have h1 : (l.take (j + 1)).Nodup := List.Sublist.nodup (List.take_sublist _ _) q
            rw [ntake hx] at h1
            exact (List.nodup_append.1 h1).2.2 x hm x (by simp) rfl
          rw [show marks (l.take j) x = true from by simpa [marks] using hm] at hold
          clear hm hx hnd hmk
          go_wp2_with fail
          go_ret
          exact ⟨20, _, rfl, .inr ⟨by omega, rfl⟩, fin.out, hbw.out⟩
        · have hnd2 : Hid ((l.take (j + 1)).Nodup) := by
            rw [ntake hx]
            refine hid (List.nodup_append.2 ⟨hnd.out, by simp, fun a ha c hc e => ?_⟩)
            simp at hc
            subst hc
            subst e
            exact hm ha
          obtain ⟨s1, s2⟩ := hmk.out.row.stored x (.bool true)
          rw [bl_set, marks_on, ← ntake hx] at s1
          have hnew := hid (Mk.mk s1 (below_row hmk.out.bel hmk.out.low hmk.out.row (Nat.le_refl _) s2) hmk.out.low)
          rw [show marks (l.take j) x = false from by simpa [marks] using hm] at hold
          clear hm hx hnd hmk s1 s2
          go_wp2_with fail
          go_roundw
          case rel => exact ⟨j + 1, by omega, by go_num, hnd2, hnew⟩
          case measure => simp [intOf]; omega
      · obtain rfl : j = n := by omega
        have v2 : decide ((j : Int) < (j : Int)) = false := decide_eq_false (by omega)
        have hndl : Hid l.Nodup := by
          have h := hnd.out
          rw [List.take_of_length_le (by rw [hll.out]; exact Nat.le_refl _)] at h
          exact hid h
        have hmkl : Hid (Mk w3.heap.size w3 wr (.slice (some ⟨w3.heap.size, 0, none⟩) V V) V (marks l)) := by
          have h := hmk.out
          rw [List.take_of_length_le (by rw [hll.out]; exact Nat.le_refl _)] at h
          exact hid h
        clear hnd hmk
        go_wp2_with fail
        go_loopw [10, 11, 43] (fun _ _ u wy => ∃ v : Nat, v ≤ V ∧ u = .int .i64 (v : Int) ∧ Hid (∀ u, u < v → R u ≠ [] → u ∈ l) ∧ Hid (Mk w3.heap.size w3 wy (.slice (some ⟨w3.heap.size, 0, none⟩) V V) V (marks l))) (fun _ _ u _ => V - (intOf u).toNat)
        case atStart => exact ⟨0, by omega, by go_num, hid (fun u hu => by omega), hmkl⟩
        case round =>
          obtain ⟨v, hvV, rfl, hin, hmk⟩ := hrel
          clear hmkl
          have hb5 := hid (b3.out.trans (hmk.out.bel.mono b3.out.size))
          rcases Nat.lt_or_ge v V with hvl | hvg
          · have hcell : wr.cell? ⟨w3.heap.size, v, none⟩ = some (.bool (marks l v)) := by rw [hmk.out.row.cellAt v (by omega), bl_get hvl]
            have k1 : (0 : Int) ≤ (v : Int) := by omega
            have k2 : (v : Int) < (V : Int) := by omega
            have v3 : decide ((v : Int) < (V : Int)) = true := decide_eq_true (by omega)
            by_cases hm : v ∈ l
            · rw [show marks l v = true from by simpa [marks] using hm] at hcell
              have hin2 : Hid (∀ u, u < v + 1 → R u ≠ [] → u ∈ l) := hid (fun u hu hne => by
                by_cases e : u = v
                · subst e; exact hm
                · exact hin.out u (by omega) hne)
              clear hm hin
              go_wp2_with fail
              go_roundw
              case rel => exact ⟨v + 1, by omega, by go_num, hin2, hmk⟩
              case measure => simp [intOf]; omega
            · rw [show marks l v = false from by simpa [marks] using hm] at hcell
              by_cases hR0 : R v = []
              · have hc := hid (hba.out v true hvl (by simp [hR0]) _ hb5.out)
                have hin2 : Hid (∀ u, u < v + 1 → R u ≠ [] → u ∈ l) := hid (fun u hu hne => by
                  by_cases e : u = v
                  · subst e; exact absurd hR0 hne
                  · exact hin.out u (by omega) hne)
                clear hm hin hR0
                go_wp2_with fail
                refine hc.out.mono ?_
                rintro e w6 ⟨rfl, b6⟩
                have hmk6 := hid (hmk.out.more b6)
                clear b6 hc hmk
                go_wp2_with fail
                go_roundw
                case rel => exact ⟨v + 1, by omega, by go_num, hin2, hmk6⟩
                case measure => simp [intOf]; omega
              · have hc := hid (hba.out v false hvl (by simp [hR0]) _ hb5.out)
                have fin : Hid (Ck12 V R zs 13) := hid (.inr ⟨l, hzl'.out, hlV.out, .inr ⟨hndl.out, .inl ⟨rfl, v, hvl, hR0, hm⟩⟩⟩)
                clear hm hin hR0
                go_wp2_with fail
                refine hc.out.mono ?_
                rintro e w6 ⟨rfl, b6⟩
                have hb6 := hid (hb5.out.trans (b6.mono hb5.out.size))
                clear b6 hc hmk
                go_wp2_with fail
                go_ret
                exact ⟨13, _, rfl, .inr ⟨by omega, rfl⟩, fin.out, hb6.out⟩
          · obtain rfl : v = V := by omega
            have v3 : decide ((v : Int) < (v : Int)) = false := decide_eq_false (by omega)
            have fin : Hid (Ck12 v R zs 0) := hid (.inr ⟨l, hzl'.out, hlV.out, .inr ⟨hndl.out, .inr ⟨rfl, hin.out⟩⟩⟩)
            clear hin hmk
            go_wp2_with fail
            go_ret
            exact ⟨0, _, rfl, .inl ⟨rfl, rfl⟩, fin.out, hb5.out⟩
end
end Go.Proofs.YtboafgimjadboaaGreatDoor
