/- 'ArenaBack', walked: two Arenas of the same places. -/
import Derived.Test.YtcngcomckoiklaaDoorRef3
import Derived.Test.YtcngcomckoiklaaDoorPlaces3
namespace Go.Proofs.YtcngcomckoiklaaDoor
open Go.RowKit

/-- 'int(uint(z) % uint(c))'. -/
theorem mod_inN (z : Int) (C : Nat) (h1 : 1 ≤ C) (h2 : C ≤ 1048576) : ∃ a : Nat, wrap64 ((IntKind.u64.wrap z).tmod (C : Int)) = (a : Int) ∧ a < C := by
  have e : (IntKind.u64.wrap z).tmod (C : Int) = z % 18446744073709551616 % (C : Int) := by
    rw [IntKind.wrap_u64, Int.tmod_eq_emod_of_nonneg (by omega)]
  have g1 : 0 ≤ z % 18446744073709551616 % (C : Int) := Int.emod_nonneg _ (by omega)
  have g2 : z % 18446744073709551616 % (C : Int) < C := Int.emod_lt_of_pos _ (by omega)
  rw [e]
  generalize z % 18446744073709551616 % (C : Int) = r at g1 g2
  refine ⟨r.toNat, ?_, by omega⟩
  rw [IntWalk.wrap64_in r ⟨by omega, by omega⟩]
  omega

/-- Where the law stands: two Arenas, apart. -/
structure SB (lo la ha aa lb hb ab n : Nat) (w : World) (pa pb : List (Int × Int)) (wr : World) : Prop where
  both : ∃ oa ob, Arena wr la ha aa oa n pa ∧ Arena wr lb hb ab ob n pb ∧ ∀ k, own la ha oa k → ¬ own lb hb ob k
  env : Tab wr
  below : Below lo w wr
  two : 2 ≤ lo
  la_ : lo ≤ la
  lb_ : lo ≤ lb

theorem SB.more {lo la ha aa lb hb ab n : Nat} {w wr w' : World} {pa pb : List (Int × Int)} (h : SB lo la ha aa lb hb ab n w pa pb wr) (hw : Below wr.heap.size wr w') : SB lo la ha aa lb hb ab n w pa pb w' := by
  obtain ⟨oa, ob, h1, h2, h3⟩ := h.both
  have := h1.pos
  have := h.la_
  exact ⟨⟨oa, ob, h1.below hw, h2.below hw, h3⟩, h.env.below hw, h.below.trans (hw.mono (by omega)), h.two, h.la_, h.lb_⟩

theorem SB.alloc {lo la ha aa lb hb ab n : Nat} {w wr : World} {pa pb : List (Int × Int)} (h : SB lo la ha aa lb hb ab n w pa pb wr) (o : Obj) : SB lo la ha aa lb hb ab n w pa pb (wr.alloc o) := h.more ((Below.refl _ _).alloc (Nat.le_refl _) _)

/-- The two change places. -/
theorem SB.swap {lo la ha aa lb hb ab n : Nat} {w wr : World} {pa pb : List (Int × Int)} (h : SB lo la ha aa lb hb ab n w pa pb wr) : SB lo lb hb ab la ha aa n w pb pa wr := by
  obtain ⟨oa, ob, h1, h2, h3⟩ := h.both
  exact ⟨⟨ob, oa, h2, h1, fun k hb ha => h3 k ha hb⟩, h.env, h.below, h.two, h.lb_, h.la_⟩

theorem SB.handleIs {lo la ha aa lb hb ab n : Nat} {w wr : World} {pa pb : List (Int × Int)} (h : SB lo la ha aa lb hb ab n w pa pb wr) (hg : Handle w) : Handle wr := by
  have := h.below.cell (p := ⟨0, 0, none⟩) (show 0 < lo by have := h.two; omega)
  unfold Handle
  rw [this]
  exact hg

theorem SB.turn {lo la ha aa lb hb ab n : Nat} {w wr w' : World} {pa pa' pb : List (Int × Int)} {oa ob oa' : Option Nat} (h : SB lo la ha aa lb hb ab n w pa pb wr) (h1 : Arena wr la ha aa oa n pa) (h2 : Arena wr lb hb ab ob n pb) (h3 : ∀ k, own la ha oa k → ¬ own lb hb ob k)
    (h1' : Arena w' la ha aa oa' n pa') (ht : Turned (own la ha oa) wr w') (hn : oa' = oa ∨ ∃ k, oa' = some k ∧ wr.heap.size ≤ k) : SB lo la ha aa lb hb ab n w pa' pb w' := by
  have hp := h1.pos
  have hq := h2.pos
  have htwo := h.two
  have hla := h.la_
  refine ⟨⟨oa', ob, h1', h2.of ht (fun k hk e => h3 k e hk), fun k hk => ?_⟩, h.env.turned ht (fun k hk => by have := h1.lowOwn k hk; omega), h.below.trans (ht.below (fun k hk => by have := h1.lowOwn k hk; omega) (by omega)), h.two, h.la_, h.lb_⟩
  rcases hn with rfl | ⟨g, rfl, hg⟩
  · exact h3 k hk
  · rcases hk with hk | hk
    · exact h3 k (Or.inl hk)
    · obtain rfl : g = k := Option.some.inj hk
      rintro (⟨_, e⟩ | e)
      · omega
      · have := hq.2.2.2.2.2 g e; omega

/-- The first's Add. -/
theorem SB.add {lo la ha aa lb hb ab n : Nat} {w wr : World} {ps pb ps' : List (Int × Int)} {A : Int} (h : SB lo la ha aa lb hb ab n w ps pb wr) (x : Nat) (hl : lowP ps = x) (hx : x < n) (hA : (atP ps x).1 + 1 = A) (hp : putP ps x (A, 1) = ps') :
    Calls Tryd.prog 27 #[.pointer (some ⟨aa, 0, none⟩)] wr fun e w' => e = .returned (.tuple #[hv A x, .nilIface]) ∧ SB lo la ha aa lb hb ab n w ps' pb w' ∧ Keep ha wr w' := by
  subst hl hA hp
  obtain ⟨oa, ob, h1, h2, h3⟩ := h.both
  refine (add_hit la ha aa n oa ps wr h1 h.env hx).mono ?_
  rintro e w' ⟨oa', rfl, h1', ht, hn⟩
  exact ⟨rfl, h.turn h1 h2 h3 h1' ht hn, h1.keep ht⟩

theorem SB.addFull {lo la ha aa lb hb ab n : Nat} {w wr : World} {ps pb : List (Int × Int)} (h : SB lo la ha aa lb hb ab n w ps pb wr) (hx : n ≤ lowP ps) :
    Calls Tryd.prog 27 #[.pointer (some ⟨aa, 0, none⟩)] wr fun e w' => e = .returned (.tuple #[hv 0 0, .iface 74 (.int .i64 16)]) ∧ Below wr.heap.size wr w' := by
  obtain ⟨oa, ob, h1, h2, h3⟩ := h.both
  exact add_full la ha aa n oa ps wr h1 h.env hx

theorem SB.drop {lo la ha aa lb hb ab n : Nat} {w wr : World} {ps pb ps' : List (Int × Int)} {A : Int} (h : SB lo la ha aa lb hb ab n w ps pb wr) (x : Nat) (hat : atP ps x = (A, 1)) (hp : putP ps x (A, if A = 4294967295 then 2 else 0) = ps') :
    Calls Tryd.prog 23 #[.pointer (some ⟨aa, 0, none⟩), hv A x] wr fun e w' => e = .returned .nilIface ∧ SB lo la ha aa lb hb ab n w ps' pb w' ∧ Keep ha wr w' := by
  subst hp
  obtain ⟨oa, ob, h1, h2, h3⟩ := h.both
  refine (drop_ok la ha aa n x A oa ps wr h1 hat).mono ?_
  rintro e w' ⟨rfl, h1', ht⟩
  exact ⟨rfl, h.turn h1 h2 h3 h1' ht (Or.inl rfl), h1.keep ht⟩

theorem SB.handle {lo la ha aa lb hb ab n : Nat} {w wr : World} {ps pb : List (Int × Int)} {A : Int} (h : SB lo la ha aa lb hb ab n w ps pb wr) (x : Nat) (hat : atP ps x = (A, 1)) :
    Calls Tryd.prog 26 #[.pointer (some ⟨aa, 0, none⟩), .int .i64 (x : Int)] wr fun e w' => e = .returned (.tuple #[hv A x, .nilIface]) ∧ Below wr.heap.size wr w' := by
  obtain ⟨oa, ob, h1, h2, h3⟩ := h.both
  have hl := live_lt (show (atP ps x).2 = 1 by rw [hat])
  have := h1.2.le
  have := handle_in la ha aa n x oa ps wr h1 (by omega)
  rw [hat, if_pos rfl] at this
  exact this

theorem SB.all {lo la ha aa lb hb ab n : Nat} {w wr : World} {ps pb : List (Int × Int)} (h : SB lo la ha aa lb hb ab n w ps pb wr) :
    Calls Tryd.prog 17 #[.pointer (some ⟨aa, 0, none⟩)] wr fun e w' => ∃ ad cap, e = .returned (.slice ad (livesI ps).length cap) ∧ Ints w' ad (livesI ps) ∧ Below wr.heap.size wr w' := by
  obtain ⟨oa, ob, h1, h2, h3⟩ := h.both
  refine (all3_ok la ha aa n oa ps wr h1 h.env h.env.two).mono ?_
  rintro e w' ⟨ad, cap, rfl, h1, h2, _⟩
  exact ⟨ad, cap, rfl, h1, h2⟩

theorem SB.sizes {lo la ha aa lb hb ab n : Nat} {w wr : World} {ps pb : List (Int × Int)} (h : SB lo la ha aa lb hb ab n w ps pb wr) : ha ≤ wr.heap.size ∧ hb ≤ wr.heap.size ∧ n ≤ 1048576 ∧ ps.length ≤ n := by
  obtain ⟨oa, ob, h1, h2, h3⟩ := h.both
  have := h1.pos
  have := h2.pos
  exact ⟨by omega, by omega, by omega, h1.2.le⟩

theorem livesI_get {ps : List (Int × Int)} {i : Nat} (h : i < (livesI ps).length) : ∃ x : Nat, (livesI ps)[i]? = some (x : Int) ∧ (atP ps x).2 = 1 := by
  have hl : i < (lives ps).length := by simpa [livesI] using h
  exact ⟨(lives ps)[i], by simp [livesI, hl], ((lv_mem ps ps.length _).1 (List.getElem_mem hl)).2⟩

set_option maxRecDepth 100000 in
set_option maxHeartbeats 8000000 in
theorem back_law (n : Int) (ad : Option Addr) (ps : List (Int × Int)) (cap : Nat) (dd : Option Addr) (zs : List Int) (dcap : Nat) (w : World) (hE : Env w) (h : Prow w ad ps) (hb : ps.length * 16 ≤ 140737488355328) (hz : Ints w dd zs) :
    Calls Tryd.prog 7 #[.int .i64 n, .slice ad ps.length cap, .slice dd zs.length dcap] w fun e w' => e = .returned (.bool true) ∧ Below w.heap.size w w' := by
  obtain ⟨K, hK, hK1, hK2⟩ := mod_up n 12 (by decide) (by decide)
  have hl := h.bound
  have hzl := hz.bound
  have hEh := hid hE
  have hph := hid h
  have hzh := hid hz
  clear hE h hz
  go_enter Tryd.func7, Tryd.ntmps7
  go_wp2_with fail
  refine (give_ok ad ps cap _ hph.out hb).mono ?_
  rintro e w1 ⟨ad1, cap1, rfl, hp1, h01, b1⟩
  have hE1 := hid (hEh.out.below b1)
  have hb1 := hid b1
  by_cases hf : Fair K ps
  · have hld := load_ok K ad1 ps cap1 w1 hp1 h01 hK1 (by omega) hf
    have hfh := hid hf
    clear hp1 h01 b1 hph hf
    go_wp2_with fail
    try rw [hK]
    refine hld.mono ?_
    rintro e w2 ⟨aa, oa, rfl, a2, b2⟩
    have hE2 := hid (hE1.out.below b2)
    have hb2 := hid b2
    have hpl := places3_ok _ _ _ _ _ _ _ a2
    have a2h := hid a2
    clear hld a2 b2
    go_wp2_with fail
    refine hpl.mono ?_
    rintro e w3 ⟨ad3, cap3, rfl, hp3, h03, _, b3⟩
    have hE3 := hid (hE2.out.below b3)
    have hb3 := hid b3
    have hld := load_ok K ad3 ps cap3 w3 hp3 h03 hK1 (by omega) hfh.out
    clear hpl hp3 h03 b3
    go_wp2_with fail
    try rw [hK]
    refine hld.mono ?_
    rintro e w4 ⟨ab, ob, rfl, a4, b4⟩
    have hs1 := hb1.out.size
    have hs2 := hb2.out.size
    have hs3 := hb3.out.size
    have hst : Hid (SB w.heap.size w1.heap.size w2.heap.size aa w3.heap.size w4.heap.size ab K w ps ps w4) := by
      have a3 := a2h.out.below hb3.out
      have hp2 := a2h.out.pos
      refine ⟨⟨oa, ob, a3.below b4, a4, fun k hk hk2 => ?_⟩, (hE3.out.below b4).2, hb1.out.trans ((hb2.out.mono hs1).trans ((hb3.out.mono (by omega)).trans (b4.mono (by omega)))), hEh.out.lt, hs1, by omega⟩
      have hk3 := a4.lowOwn k hk2
      rcases hk with ⟨_, e⟩ | e
      · omega
      · have := hp2.2.2.2.2.2 k e; omega
    have hgt : w2.heap.size ≤ w4.heap.size := by have := b4.size; omega
    clear hld a4 b4 a2h hE1 hE2 hE3 hb1 hb2 hb3 hs1 hs2 hs3
    go_wp2_with fail
    go_loopw [12] (fun u wr => ∃ (t : Nat) (qs : List (Int × Int)), t ≤ zs.length ∧ t ≤ 40 ∧ u = .int .i64 (t : Int) ∧ Hid (SB w.heap.size w1.heap.size w2.heap.size aa w3.heap.size w4.heap.size ab K w qs qs wr))
      (fun u _ => 40 - (intOf u).toNat)
    case atStart => exact ⟨0, ps, by omega, by omega, by go_num, hst⟩
    case round =>
      obtain ⟨t, qs, ht1, ht2, rfl, hs⟩ := hrel
      clear hst hfh
      by_cases hgo : t < zs.length ∧ t < 40
      · obtain ⟨hgo1, hgo2⟩ := hgo
        obtain ⟨z, hzt⟩ : ∃ z, zs[t]? = some z := ⟨_, List.getElem?_eq_getElem hgo1⟩
        cases dd with
        | none => have := hzh.out.nil rfl; subst this; simp at hgo1
        | some a0 =>
          have hcell := (hzh.out.below hs.out.below).cell a0 rfl t z hzt
          clear hzt
          by_cases hev : z.tmod 2 = 0
          · have tev : (z.tmod 2 == 0) = true := by simpa using hev
            clear hev
            obtain ⟨x, hxe⟩ : ∃ x, lowP qs = x := ⟨_, rfl⟩
            rcases Nat.lt_or_ge x K with hxK | hxK
            · obtain ⟨A, hA⟩ : ∃ A, (atP qs x).1 + 1 = A := ⟨_, rfl⟩
              have hxh := hid hxe
              have hAh := hid hA
              clear hxe hA
              go_wp2_with fail
              refine (hs.out.add x hxh.out hxK hAh.out rfl).mono ?_
              rintro e w5 ⟨rfl, s5, _⟩
              have s5h := hid (s5.alloc (.cells #[.int .u32 A, .int .u32 (x : Int)] 53)).swap
              have c5 := hid (heap_alloc_new w5 (.cells #[.int .u32 A, .int .u32 (x : Int)] 53))
              have hz5 := hid s5.sizes
              clear hs s5 hcell tev
              go_wp2_with fail
              refine (s5h.out.add x hxh.out hxK hAh.out rfl).mono ?_
              rintro e w6 ⟨rfl, s6, k6⟩
              have c6 := (Keep.alloc w4.heap.size w6 (.cells #[.int .u32 A, .int .u32 (x : Int)] 53)) _ _ _ _ hz5.out.2.1 (k6 _ _ _ _ hz5.out.2.1 c5.out (by decide)) (by decide)
              obtain ⟨x0, x1⟩ := blk2 c6
              have s6h := hid (s6.alloc (.cells #[.int .u32 A, .int .u32 (x : Int)] 53)).swap
              clear s5h c5 s6 k6 c6
              go_wp2_with fail
              refine (num_nil _).mono ?_
              rintro e w7 ⟨rfl, b7⟩
              have s7 := hid (s6h.out.more b7)
              clear s6h b7 x0 x1
              go_wp2_with fail
              refine (num_nil _).mono ?_
              rintro e w8 ⟨rfl, b8⟩
              have s8 := hid (s7.out.more b8)
              clear s7 b8
              go_wp2_with fail
              go_roundw
              case rel => exact ⟨t + 1, _, by omega, by omega, by go_num, s8⟩
              case measure => simp [intOf]; omega
            · have hxh := hid hxe
              clear hxe
              go_wp2_with fail
              refine (hs.out.addFull (by rw [hxh.out]; exact hxK)).mono ?_
              rintro e w5 ⟨rfl, b5⟩
              have s5h := hid ((hs.out.more b5).alloc (.cells #[.int .u32 0, .int .u32 0] 53)).swap
              have c5 := hid (heap_alloc_new w5 (.cells #[.int .u32 0, .int .u32 0] 53))
              clear hs b5 hcell tev
              go_wp2_with fail
              refine (s5h.out.addFull (by rw [hxh.out]; exact hxK)).mono ?_
              rintro e w6 ⟨rfl, b6⟩
              have c6 := (Keep.alloc 0 w6 (.cells #[.int .u32 0, .int .u32 0] 53)) _ _ _ _ (Nat.zero_le _) ((b6.block _ (by simp)).trans c5.out) (by decide)
              obtain ⟨x0, x1⟩ := blk2 c6
              have s6h := hid ((s5h.out.more b6).alloc (.cells #[.int .u32 0, .int .u32 0] 53)).swap
              clear s5h c5 b6 c6
              go_wp2_with fail
              refine (num_err 16 _ (s6h.out.handleIs hEh.out.1)).mono ?_
              rintro e w7 ⟨rfl, b7⟩
              have s7 := hid (s6h.out.more b7)
              clear s6h b7 x0 x1
              go_wp2_with fail
              refine (num_err 16 _ (s7.out.handleIs hEh.out.1)).mono ?_
              rintro e w8 ⟨rfl, b8⟩
              have s8 := hid (s7.out.more b8)
              clear s7 b8
              go_wp2_with fail
              go_roundw
              case rel => exact ⟨t + 1, qs, by omega, by omega, by go_num, s8⟩
              case measure => simp [intOf]; omega
          · have tev : (z.tmod 2 == 0) = false := by simpa using hev
            clear hev
            go_wp2_with fail
            refine hs.out.all.mono ?_
            rintro e w5 ⟨av, ac, rfl, hI, b5⟩
            have hIh := hid hI
            have s5 := hid (hs.out.more b5)
            have hcell5 := (b5.cell (World.block_lt_of_cell? _ _ hcell)).trans hcell
            have hlv := livesI_length qs
            have hlv2 := liveN_le qs
            have hsz := hs.out.sizes
            clear hs hI b5 hcell tev
            rcases Nat.eq_zero_or_pos (livesI qs).length with hl0 | hpos
            · rw [hl0]
              go_wp2_with fail
              go_roundw
              case rel => exact ⟨t + 1, qs, by omega, by omega, by go_num, s5⟩
              case measure => simp [intOf]; omega
            · obtain ⟨C, hC⟩ : ∃ C, (livesI qs).length = C := ⟨_, rfl⟩
              obtain ⟨i, him, hiC⟩ := mod_inN z C (by omega) (by omega)
              obtain ⟨x, hx, hx1⟩ := livesI_get (ps := qs) (i := i) (by omega)
              obtain ⟨A, hA⟩ : ∃ A, atP qs x = (A, 1) := ⟨(atP qs x).1, by rw [← hx1]⟩
              have hAh := hid hA
              cases av with
              | none => have := hIh.out.nil rfl; rw [this] at hpos; simp at hpos
              | some av =>
                have hcl := hIh.out.cell av rfl i _ hx
                rw [hC] at hpos ⊢
                have hC2 : C ≤ 1048576 := by omega
                clear hx hx1 hA hlv hlv2 hsz hC hIh
                go_wp2_with fail
                refine (s5.out.handle x hAh.out).mono ?_
                rintro e w6 ⟨rfl, b6⟩
                have s6 := hid ((s5.out.more b6).alloc (.cells #[.int .u32 A, .int .u32 (x : Int)] 53))
                have hz6 := hid (s5.out.more b6).sizes
                have c6 := hid (heap_alloc_new w6 (.cells #[.int .u32 A, .int .u32 (x : Int)] 53))
                obtain ⟨x0, x1⟩ := blk2 c6.out
                clear s5 b6 hcl hcell5 him
                go_wp2_with fail
                refine (s6.out.drop x hAh.out rfl).mono ?_
                rintro e w7 ⟨rfl, s7, k7⟩
                have s7h := hid s7.swap
                have c7 := k7 _ _ _ _ hz6.out.1 c6.out (by decide)
                clear x0 x1
                obtain ⟨x0, x1⟩ := blk2 c7
                clear s6 s7 k7 c6 c7
                go_wp2_with fail
                refine (s7h.out.drop x hAh.out rfl).mono ?_
                rintro e w8 ⟨rfl, s8, _⟩
                have s8h := hid s8.swap
                clear s7h s8 x0 x1
                go_wp2_with fail
                go_roundw
                case rel => exact ⟨t + 1, _, by omega, by omega, by go_num, s8h⟩
                case measure => simp [intOf]; omega
      · have hstop : zs.length ≤ t ∨ (t < zs.length ∧ 40 ≤ t) := by omega
        clear hgo
        rcases hstop with hstop | ⟨hstop1, hstop2⟩
        all_goals
          go_wp2_with fail
          refine hs.out.all.mono ?_
          rintro e w5 ⟨av, ac, rfl, hI, b5⟩
          have hIh := hid hI
          have s5 := hid (hs.out.more b5).swap
          clear hs hI b5
          go_wp2_with fail
          refine s5.out.all.mono ?_
          rintro e w6 ⟨bv, bc, rfl, hJ, b6⟩
          have hJh := hid hJ
          have hI6 := hid (hIh.out.below b6)
          have s6 := hid (s5.out.more b6)
          clear s5 hIh hJ b6
          go_wp2_with fail
          refine (ints_same _ _ _ _ _ _ hI6.out hJh.out).mono ?_
          rintro e w7 ⟨rfl, b7⟩
          have s7 := hid (s6.out.more b7)
          clear s6 b7 hI6 hJh
          go_wp2_with fail
          refine (sure_ok _ s7.out.env).mono ?_
          rintro e w8 ⟨rfl, b8⟩
          have s8 := hid (s7.out.more b8)
          clear s7 b8
          go_wp2_with fail
          go_ret
          exact ⟨rfl, s8.out.below⟩
  · have hld := load3_bad K ad1 ps cap1 w1 hp1 hK1 (by omega) hf
    clear hp1 h01 b1 hph hf
    go_wp2_with fail
    try rw [hK]
    refine hld.mono ?_
    rintro e w2 ⟨rfl, b2⟩
    have hE2 := hid (hE1.out.below b2)
    have hb2 := hid (hb1.out.trans (b2.mono hb1.out.size))
    clear hld b2
    go_wp2_with fail
    refine (sure_ok _ hE2.out.2).mono ?_
    rintro e w3 ⟨rfl, b3⟩
    have hb3 := hid (hb2.out.trans (b3.mono hb2.out.size))
    clear b3
    go_wp2_with fail
    go_ret
    exact ⟨rfl, hb3.out⟩

end Go.Proofs.YtcngcomckoiklaaDoor
