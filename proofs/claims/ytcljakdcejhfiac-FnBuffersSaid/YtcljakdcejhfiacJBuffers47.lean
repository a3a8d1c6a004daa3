import Derived.Test.YtcljakdcejhfiacJBuffers46
namespace Go.Proofs.Ytcljakdcejhfiac
open Go.RowKit
theorem infoByteL : (Try.prog.info? 5).map (fun i => (i.zero, i.size, i.bytes)) = some (some (.int .u8 0), 1, 1) := by kernel_rfl
theorem infoIntL : (Try.prog.info? 3).map (fun i => (i.zero, i.size, i.bytes)) = some (some (.int .i64 0), 1, 8) := by kernel_rfl
theorem ints_one (xs : List Int) : ∀ u ∈ ints xs, u.oneCell' = true := by
  intro u hu
  simp only [ints, List.mem_map] at hu
  obtain ⟨x, _, rfl⟩ := hu
  rfl
theorem pack_back' (a : Option Addr) (cap : Nat) (ys : List Nat) (n : Int) (R : List Bool) (w : World) (hR : (unp ys n).1 = R) (hr : Rd w a (bls R)) (h : (unp ys n).2 = 0) (hy : ∀ y ∈ ys, y < 256) (hl : ys.length ≤ 1048576) :
    Calls Try.prog 25 #[.slice a R.length cap] w fun e w' => ∃ a' c', e = .returned (.slice a' ys.length c') ∧ Rd w' a' (byt ys) ∧ Below w.heap.size w w' := by
  subst hR; exact pack_back a cap ys n w hr h hy hl
theorem uni_back' (a : Option Addr) (cap : Nat) (xs : List Int) (n : Int) (P : List Nat) (w : World) (hP : (pki xs n).1 = P) (hr : Rd w a (byt P)) (h : (pki xs n).2 = 0) (hcap : P.length ≤ cap) (hl : xs.length ≤ 1048576) (hn : IntIn n) :
    Calls Try.prog 32 #[.slice a P.length cap, .int .i64 n] w (UniPost w (xs, 0)) := by
  subst hP; exact uni_back a cap xs n w hr h (pki_lt xs n) hcap hl hn
theorem pki_prod (xs : List Int) (n : Int) (P : List Nat) (hP : (pki xs n).1 = P) (h : (pki xs n).2 = 0) : (P.length : Int) = n * (xs.length : Int) ∧ 1 ≤ n ∧ n ≤ 8 := by
  subst hP; exact (uni_pki xs n h).2
theorem drawBits_as (a : Option Addr) (cap : Nat) (xs : List Nat) (bs : List Bool) (hb : bs = dbits (xs.take 600)) (w : World) (hr : Rd w a (byt xs)) (hcap : xs.length ≤ cap) (hnil : a = none → cap = 0) (hl : xs.length ≤ 1048576) (hx : ∀ x ∈ xs, x < 256) :
    Calls Try.prog 23 #[.slice a xs.length cap] w fun e w' => ∃ a' c', e = .returned (.slice a' bs.length c') ∧ w'.ownsRow w.heap.size 4 1 (.slice a' bs.length c') bs.length (bls bs) ∧ Below w.heap.size w w' := by
  subst hb; exact drawPackBits_any a cap xs w hr hcap hnil hl hx
theorem drawParts_as (a : Option Addr) (cap : Nat) (xs : List Nat) (ps : List (List Nat)) (hb : ps = dparts (xs.take 600)) (w : World) (hr : Rd w a (byt xs)) (hcap : xs.length ≤ cap) (hnil : a = none → cap = 0) (hl : xs.length ≤ 1048576) (hx : ∀ x ∈ xs, x < 256) :
    Calls Try.prog 34 #[.slice a xs.length cap] w fun e w' => ∃ a' c', e = .returned (.slice a' ps.length c') ∧ RdSS w' a' ps ∧ Below w.heap.size w w' := by
  subst hb; exact drawJoin_any a cap xs w hr hcap hnil hl hx
set_option maxRecDepth 1000000 in
set_option maxHeartbeats 4000000 in
theorem buffers_small (a : Option Addr) (cap : Nat) (xs : List Nat) (w : World) (hr : Rd w a (byt xs)) (hcap : xs.length ≤ cap) (hnil : a = none → cap = 0) (hx : ∀ x ∈ xs, x < 256) (hn : xs.length ≤ 1048576) :
    Calls Try.prog 5 #[.slice a xs.length cap] w fun e w' => e = .returned (.bool true) ∧ Below w.heap.size w w' := by
  obtain ⟨i0, hi, hz0, hz1, hz2⟩ := info_parts infoByteL
  obtain ⟨i1, hj, hy0, hy1, hy2⟩ := info_parts infoIntL
  have HR := hid hr
  have HX := hid hx
  have HNIL := hid hnil
  obtain ⟨bs, hbs⟩ : ∃ bs, bs = dbits (xs.take 600) := ⟨_, rfl⟩
  have hbl : bs.length ≤ 40 := by rw [hbs, dbits_len]; omega
  have HBS := hid hbs
  clear hr hx hnil hbs
  go_enter Try.func5, Try.ntmps5
  go_wp2_with fail
  refine (drawBits_as a cap xs bs HBS.out w HR.out hcap HNIL.out hn HX.out).mono ?_
  rintro e w1 ⟨a1, c1, rfl, o1, b1⟩
  have HO1 := hid o1
  have HB1 := hid b1
  clear o1 b1
  go_wp2_with fail
  refine (drawBits_as a cap xs bs HBS.out w1 (HR.out.later HB1.out) hcap HNIL.out hn HX.out).mono ?_
  rintro e w2 ⟨a2, c2, rfl, o2, b2⟩
  have HO2 := hid o2
  have HB2 := hid (below_chain HB1.out b2)
  have HO1 := hid (own_later HO1.out b2)
  clear o2 b2
  go_wp2_with fail
  refine (implPack_any a2 c2 bs w2 (rd_at HO2.out) (by omega)).mono ?_
  rintro e w3 ⟨g3, rfl, o3, b3⟩
  have HO3 := hid o3
  have HB3 := hid (below_chain HB2.out b3)
  have HO1 := hid (own_later HO1.out b3)
  clear o3 b3
  go_wp2_with fail
  refine (unb_packed _ _ bs w3 (rd_row HO3.out) (Nat.le_refl _) (by omega)).mono ?_
  rintro e w4 ⟨a4, c4, rfl, o4, b4⟩
  have HO4 := hid o4
  have HB4 := hid (below_chain HB3.out b4)
  have HO1 := hid (own_later HO1.out b4)
  clear o4 b4 HO2 HO3 HB1 HB2 HB3
  go_wp2_with fail
  go_loopw [6] (fun i wr => ∃ k : Nat, k ≤ bs.length ∧ i = .int .i64 k ∧ Below w4.heap.size w4 wr) (fun i _ => bs.length - (intOf i).toNat)
  case atStart => exact ⟨0, Nat.zero_le _, rfl, Below.refl _ _⟩
  case round =>
    obtain ⟨k, hk, rfl, hbe⟩ := hrel
    have HBE := hid hbe
    clear hbe
    by_cases hlt : k < bs.length
    · have hki : (k : Int) < (bs.length : Int) := by omega
      have h1 := rd_at (own_later HO1.out HBE.out)
      have h4 := rd_at (own_later HO4.out HBE.out)
      obtain ⟨p1, f1, rfl, q1⟩ : ∃ b off, a1 = some ⟨b, off, none⟩ ∧ wr.cell? ⟨b, off + k, none⟩ = some (.bool bs[k]) := by
        rcases h1 with h | ⟨b, off, rfl, hc⟩
        · have : (bls bs).length = 0 := by rw [h]; rfl
          rw [bls_len] at this; omega
        · exact ⟨b, off, rfl, rdBool hc k hlt⟩
      obtain ⟨p4, f4, rfl, q4⟩ : ∃ b off, a4 = some ⟨b, off, none⟩ ∧ wr.cell? ⟨b, off + k, none⟩ = some (.bool bs[k]) := by
        rcases h4 with h | ⟨b, off, rfl, hc⟩
        · have : (bls bs).length = 0 := by rw [h]; rfl
          rw [bls_len] at this; omega
        · exact ⟨b, off, rfl, rdBool hc k hlt⟩
      clear h1 h4
      go_wp2
      go_quiet (fail)
      go_wp2
      go_roundw
      case rel => exact ⟨k + 1, by omega, by go_num, below_drewN HBE.out _⟩
      case measure => simp [intOf]; omega
    · obtain rfl : k = bs.length := by omega
      have HB5 := hid (below_chain HB4.out HBE.out)
      clear HBE HB4 HO1 HO4
      go_wp2_with fail
      refine (drawUnpackBits_any a cap xs wr (HR.out.later HB5.out) hcap HNIL.out hn HX.out).mono ?_
      rintro e w6 ⟨ys, n, a6, c6, rfl, hyl, hyb, hni, o6, b6⟩
      have HYB := hid hyb
      have HNI := hid hni
      have HO6 := hid o6
      have HB6 := hid (below_chain HB5.out b6)
      clear o6 b6 hni hyb HB5
      go_wp2_with fail
      refine (specUnb_any a6 c6 ys n w6 (rd_at HO6.out) HYB.out (own_room HO6.out) (by omega) HNI.out).mono ?_
      rintro e w7 ⟨a7, c7, rfl, o7, b7⟩
      have HB7 := hid (below_chain HB6.out b7)
      have HO6 := hid (own_later HO6.out b7)
      clear o7 b7 HB6
      generalize hR : (unp ys n).1 = R at *
      generalize hC : (unp ys n).2 = C at *
      have HRE := hid hR
      have HCE := hid hC
      clear hR hC
      go_wp2_with (first | (at_builtin; refine append_row rfl _ _ 37 rfl w7.heap.size 5 i0 (.int .u8 0) 1 Try.underlying37 hi hz0 hz1 hz2 rfl _ rfl (World.ownsRow_lit w7 #[] 0 (Nat.le_refl _) (by decide) rfl) _ a6 ys.length c6 (byt ys) rfl (HO6.out.alloc _) (byt_one _) (by unfold maxLen; omega) (by omega) (by simp) ?_))
      intro v8 w8 o8 g8
      obtain ⟨a8, c8, rfl, r8⟩ := rd_own o8
      have hroom8 := own_room o8
      have b8 : Below w7.heap.size w7 w8 := ((Below.refl w7.heap.size w7).alloc (Nat.le_refl _) _).grown g8 (by simp) (fun p hp => by simp [Value.ownBlock] at hp; omega)
      have HR8 := hid r8
      have HB8 := hid (below_chain HB7.out b8)
      have HO8 := hid (own_later HO6.out b8)
      clear o8 g8 r8 b8 HB7 HO6
      go_wp2_with fail
      refine (implUnb_any a8 c8 ys n w8 HR8.out HYB.out hroom8 (by omega) HNI.out).mono ?_
      rintro e w9 ⟨a9, c9, he, o9, b9⟩
      rw [HRE.out, HCE.out] at he
      rw [HRE.out] at o9
      subst he
      have HO9 := hid o9
      have HB9 := hid (below_chain HB8.out b9)
      have HY9 := hid (own_later HO8.out b9)
      clear o9 b9 HR8 HB8 HO8 hroom8
      go_upto_region 15 with fail
      go_cut [95] (fun c wx => c = .bool false ∧ Below w9.heap.size w9 wx)
      case first =>
        by_cases hc0 : C = 0
        · have hcb : (C == 0) = true := by simp [hc0]
          have HC0 : Hid ((unp ys n).2 = 0) := hid (HCE.out.trans hc0)
          clear hc0
          go_wp2_with fail
          refine (pack_back' a9 c9 ys n R w9 HRE.out (rd_at HO9.out) HC0.out HYB.out (by omega)).mono ?_
          rintro e w10 ⟨a10, c10, rfl, r10, b10⟩
          have HR10 := hid r10
          have HB10 := hid b10
          have HY10 := hid (own_later HY9.out b10)
          clear r10 b10
          go_wp2_with fail
          refine (sameB_any a10 a6 c10 c6 _ ys w10 HR10.out (rd_at HY10.out) rfl (by omega)).mono ?_
          rintro e w11 ⟨rfl, b11⟩
          have HB11 := hid (below_chain HB10.out b11)
          clear b11
          go_wp2_with fail
          go_meet
          case rel => exact ⟨rfl, HB11.out⟩
        · have hcb : (C == 0) = false := by simp [hc0]
          go_wp2_with fail
          go_meet
          case rel => exact ⟨rfl, Below.refl _ _⟩
      case rest =>
        obtain ⟨rfl, hbe⟩ := hcut
        have HB11 := hid (below_chain HB9.out hbe)
        clear hbe HO9 HY9 HB9
        clear HRE HCE HYB HNI
        go_wp2_with fail
        refine (drawPackInts_any a cap xs wc (HR.out.later HB11.out) hcap HNIL.out hn HX.out).mono ?_
        rintro e w12 ⟨vs, m, a12, c12, rfl, hvl, hvi, hmi, o12, b12⟩
        have HVI := hid hvi
        have HMI := hid hmi
        have HO12 := hid o12
        have HB12 := hid (below_chain HB11.out b12)
        clear o12 b12 hmi hvi HB11
        go_wp2_with fail
        refine (specPki_any a12 c12 vs m w12 (rd_at HO12.out) HVI.out (own_room HO12.out) (by omega) HMI.out).mono ?_
        rintro e w13 ⟨a13, c13, rfl, o13, b13⟩
        have HB13 := hid (below_chain HB12.out b13)
        have HO13 := hid (own_later HO12.out b13)
        have hps := pki_short vs m
        clear o13 b13 HB12 HO12
        generalize hR : (pki vs m).1 = P at *
        generalize hC : (pki vs m).2 = D at *
        have HRE := hid hR
        have HCE := hid hC
        clear hR hC
        go_wp2_with (first | (at_builtin; refine append_row rfl _ _ 53 rfl w13.heap.size 3 i1 (.int .i64 0) 8 Try.underlying53 hj hy0 hy1 hy2 rfl _ rfl (World.ownsRow_lit w13 #[] 0 (Nat.le_refl _) (by decide) rfl) _ a12 vs.length c12 (ints vs) rfl (HO13.out.alloc _) (ints_one _) (by unfold maxLen; omega) (by omega) (by simp) ?_))
        intro v14 w14 o14 g14
        obtain ⟨a14, c14, rfl, r14⟩ := rd_own o14
        have hroom14 := own_room o14
        have b14 : Below w13.heap.size w13 w14 := ((Below.refl w13.heap.size w13).alloc (Nat.le_refl _) _).grown g14 (by simp) (fun p hp => by simp [Value.ownBlock] at hp; omega)
        have HR14 := hid r14
        have HB14 := hid (below_chain HB13.out b14)
        have HV14 := hid (own_later HO13.out b14)
        clear o14 g14 r14 b14 HB13 HO13
        go_wp2_with fail
        refine (implPki_any a14 c14 vs m w14 HR14.out HVI.out hroom14 (by omega) HMI.out).mono ?_
        rintro e w15 ⟨a15, c15, he, o15, b15⟩
        rw [HRE.out, HCE.out] at he
        rw [HRE.out] at o15
        subst he
        have HO15 := hid o15
        have HB15 := hid (below_chain HB14.out b15)
        have HV15 := hid (own_later HV14.out b15)
        clear o15 b15 HR14 HB14 HV14 hroom14
        go_upto_if 119 with fail
        go_cut [19, 20] (fun _ _ wx => Below w15.heap.size w15 wx)
        case first =>
          by_cases hd0 : D = 0
          · have hdb : (D == 0) = true := by simp [hd0]
            have HD0 : Hid ((pki vs m).2 = 0) := hid (HCE.out.trans hd0)
            obtain ⟨hpl, hm1, hm8⟩ := pki_prod vs m P HRE.out HD0.out
            have hwr : ((P.length : Int) != wrap64 (m * (vs.length : Int))) = false := by
              rw [← hpl, wrap64_small _ (by omega)]; simp
            clear hd0 hpl
            go_wp2_with fail
            refine (uni_back' a15 c15 vs m P w15 HRE.out (rd_at HO15.out) HD0.out (own_room HO15.out) (by omega) HMI.out).mono ?_
            rintro e w16 ⟨a16, c16, rfl, o16, b16⟩
            have HO16 := hid o16
            have HB16 := hid b16
            have HV16 := hid (own_later HV15.out b16)
            clear o16 b16
            go_wp2_with fail
            refine (sameN_any a16 a12 c16 c12 _ vs w16 (rd_at HO16.out) (rd_at HV16.out) rfl (by omega)).mono ?_
            rintro e w17 ⟨rfl, b17⟩
            have HB17 := hid (below_chain HB16.out b17)
            clear b17
            go_wp2_with fail
            go_meet
            case rel => exact HB17.out
          · have hdb : (D == 0) = false := by simp [hd0]
            go_wp2_with fail
            go_meet
            case rel => exact Below.refl _ _
        case rest =>
          have HB16 := hid (below_chain HB15.out hcut)
          clear hcut HO15 HB15 HV15 HVI HMI HRE HCE
          obtain ⟨ps, hps⟩ : ∃ ps, ps = dparts (xs.take 600) := ⟨_, rfl⟩
          have hpl : ps.length ≤ 6 := by rw [hps, dparts_len]; omega
          have hpt : tot ps ≤ 120 := by
            have := tot_le 20 ps (by rw [hps]; exact dparts_short _)
            omega
          have hJ : (join ps).length ≤ 162 := by
            have := join_len2 ps ps.length (Nat.le_refl _)
            rw [List.take_length] at this
            omega
          have HPS := hid hps
          clear hps
          go_wp2_with fail
          refine (drawParts_as a cap xs ps HPS.out wc (HR.out.later HB16.out) hcap HNIL.out hn HX.out).mono ?_
          rintro e w17 ⟨a17, c17, rfl, r17, b17⟩
          have HP17 := hid r17
          have HB17 := hid (below_chain HB16.out b17)
          clear r17 b17 HB16
          go_wp2_with fail
          refine (drawParts_as a cap xs ps HPS.out w17 (HR.out.later HB17.out) hcap HNIL.out hn HX.out).mono ?_
          rintro e w18 ⟨a18, c18, rfl, r18, b18⟩
          have HQ18 := hid r18
          have HP18 := hid (HP17.out.later b18)
          have HB18 := hid (below_chain HB17.out b18)
          clear r18 b18 HB17 HP17
          go_wp2_with fail
          refine (implJoin_any a18 c18 ps w18 HQ18.out (by omega) (by omega)).mono ?_
          rintro e w19 ⟨a19, c19, rfl, o19, b19⟩
          have hroom := own_room o19
          have hjn : a19 = none → c19 = 0 := own_nil o19 rfl
          have HJ := hid (rd_at o19)
          have HG : Hid ((a19 = none ∧ (join ps).length = 0) ∨ ∃ g, a19 = some ⟨g, 0, none⟩) := hid (by
            rcases o19.2 with ⟨h1, h2⟩ | ⟨g, cap', cur, h1, _⟩
            · simp at h1; exact .inl ⟨h1.1, h2⟩
            · simp at h1; exact .inr ⟨g, h1.1⟩)
          have HJN := hid hjn
          have HP := hid (HP18.out.later b19)
          have HB := hid (below_chain HB18.out b19)
          clear o19 b19 HB18 HP18 HQ18 hjn HPS HX HR HNIL HBS
          go_wp2_with fail
          go_loopw [23, 24] (fun t i wr => ∃ k : Nat, k ≤ ps.length ∧ i = .int .i64 k ∧ t = .int .i64 (((join (ps.take k)).length : Nat) : Int) ∧ Below w19.heap.size w19 wr) (fun _ i _ => ps.length - (intOf i).toNat)
          case atStart => exact ⟨0, Nat.zero_le _, rfl, rfl, Below.refl _ _⟩
          case round =>
            obtain ⟨k, hk, rfl, rfl, hbe⟩ := hrel
            have HBE := hid hbe
            have hmod := join_mod ps k hk
            clear hbe
            by_cases hlt : k < ps.length
            · have hki : (k : Int) < (ps.length : Int) := by omega
              obtain ⟨hA1, hA2, hA3, hA4⟩ := join_at ps k hlt
              have HA3 := hid hA3
              have HA4 := hid hA4
              have HA1 := hid hA1
              have HA2 := hid hA2
              obtain ⟨b, off, a', c', rfl, hcb, hrr, -⟩ := (HP.out.later HBE.out).at_ hlt
              have hJr := HJ.out.later HBE.out
              have HRR := hid hrr
              have HJR := hid hJr
              have hin : (join (ps.take k)).length + ps[k].length ≤ (join ps).length := by omega
              clear hA1 hA2 hA3 hA4 hrr hJr
              generalize (join (ps.take k)).length = A at *
              have hm8 : ((A : Int) % 8 != 0) = false := by simp; omega
              have hm8' : ((A : Int).tmod 8 != 0) = false := by rw [Int.tmod_eq_emod_of_nonneg (by omega)]; exact hm8
              have hgd : decide (((join ps).length : Int) < (A : Int) + (ps[k].length : Int)) = false := decide_eq_false (by omega)
              have hgt : ¬ ((join ps).length : Int) < (A : Int) + (ps[k].length : Int) := by omega
              have HQ : Hid (∀ n q c, Rd wr q (byt ps[k]) → Calls Try.prog 28 #[.slice q ps[k].length c, .slice a' ps[k].length c'] (wr.drewN n) fun e w' => e = .returned (.bool true) ∧ ∃ m, w' = (wr.drewN n).drewN m) := hid (by
                intro n q c hq
                exact sameB_quiet _ _ _ _ _ ps[k] _ (hq.later (below_drewN (Below.refl _ _) n)) (HRR.out.later (below_drewN (Below.refl _ _) n)) rfl (by omega))
              have HZ : Hid (∀ T, A + ps[k].length ≤ T → T < A + ps[k].length + padn (A + ps[k].length) → ∀ w2, Below wr.heap.size wr w2 → ∃ g, a19 = some ⟨g, 0, none⟩ ∧ w2.cell? ⟨g, T, none⟩ = some (.int .u8 0)) := hid (by
                intro T h1 h2 w2 hw
                have hz := HA4.out (T - (A + ps[k].length)) (by omega)
                rw [show A + ps[k].length + (T - (A + ps[k].length)) = T from by omega] at hz
                rcases HG.out with ⟨_, hJ0⟩ | ⟨g, rfl⟩
                · have := (List.getElem?_eq_some_iff.1 hz).1
                  omega
                · refine ⟨g, rfl, ?_⟩
                  have := rd_cell (HJR.out.later hw) hz
                  rwa [Nat.zero_add] at this)
              rcases HG.out with ⟨rfl, hJ0⟩ | ⟨g, rfl⟩
              · obtain rfl := HJN.out rfl
                have hAL : A + ps[k].length ≤ 0 := by omega
                have HRQ : Hid (Rd wr none (byt ps[k])) := hid (by
                  rw [List.length_eq_zero_iff.1 (show ps[k].length = 0 by omega)]; exact .inl rfl)
                have HJ0 := hid hJ0
                clear hJ0
                go_wp2_with fail
                go_big_quiet ((go_at_call 28; exact Calls.quiet_of (HQ.out _ _ _ HRQ.out)))
                go_wp2_with fail
                go_loopw [23] (fun t w2 => ∃ T : Nat, A + ps[k].length ≤ T ∧ T ≤ A + ps[k].length + padn (A + ps[k].length) ∧ t = .int .i64 (T : Int) ∧ Below wr.heap.size wr w2) (fun t _ => A + ps[k].length + padn (A + ps[k].length) - (intOf t).toNat)
                case atStart => exact ⟨A + ps[k].length, Nat.le_refl _, Nat.le_add_right _ _, by go_num, below_drewN (Below.refl _ _) _⟩
                case round =>
                  obtain ⟨T, hT1, hT2, rfl, hb2⟩ := hrel
                  have HB2 := hid hb2
                  clear hb2
                  have hpd : (A + ps[k].length + (T - (A + ps[k].length))) % 8 = 0 ↔ T - (A + ps[k].length) = padn (A + ps[k].length) := padn_done (by omega)
                  by_cases hTe : T = A + ps[k].length + padn (A + ps[k].length)
                  · have hT8 : T % 8 = 0 := by
                      have := hpd.2 (by omega)
                      rwa [show A + ps[k].length + (T - (A + ps[k].length)) = T from by omega] at this
                    have hTb : ((T : Int) % 8 != 0) = false := by simp; omega
                    have HT : Hid (T = (join (ps.take (k + 1))).length) := hid (hTe.trans HA1.out)
                    have HB3 := hid (below_chain HBE.out HB2.out)
                    clear hpd hTe hT8
                    go_wp2_with fail
                    go_roundw
                    case rel => exact ⟨k + 1, by omega, by go_num, by rw [← HT.out], HB3.out⟩
                    case measure => simp [intOf]; omega
                  · have hT8 : T % 8 ≠ 0 := by
                      intro h
                      have := hpd.1 (by rw [show A + ps[k].length + (T - (A + ps[k].length)) = T from by omega]; exact h)
                      omega
                    have hTb : ((T : Int) % 8 != 0) = true := by simp; omega
                    have hTJ : T < (join ps).length := by have := HA2.out; have := HA1.out; omega
                    have hTi : (T : Int) < ((join ps).length : Int) := by omega
                    obtain ⟨g', eg, hcz⟩ := HZ.out T hT1 (by omega) _ HB2.out
                    cases eg
              by_cases eA : c19 = A
              · have HRQ : Hid (Rd wr (some ⟨g, 0, none⟩) (byt ps[k])) := hid (by
                  rw [List.length_eq_zero_iff.1 (show ps[k].length = 0 by omega)]; exact .inl rfl)
                subst eA
                go_wp2_with fail
                go_big_quiet ((go_at_call 28; exact Calls.quiet_of (HQ.out _ _ _ HRQ.out)))
                go_wp2_with fail
                go_loopw [23] (fun t w2 => ∃ T : Nat, c19 + ps[k].length ≤ T ∧ T ≤ c19 + ps[k].length + padn (c19 + ps[k].length) ∧ t = .int .i64 (T : Int) ∧ Below wr.heap.size wr w2) (fun t _ => c19 + ps[k].length + padn (c19 + ps[k].length) - (intOf t).toNat)
                case atStart => exact ⟨c19 + ps[k].length, Nat.le_refl _, Nat.le_add_right _ _, by go_num, below_drewN (Below.refl _ _) _⟩
                case round =>
                  obtain ⟨T, hT1, hT2, rfl, hb2⟩ := hrel
                  have HB2 := hid hb2
                  clear hb2
                  have hpd : (c19 + ps[k].length + (T - (c19 + ps[k].length))) % 8 = 0 ↔ T - (c19 + ps[k].length) = padn (c19 + ps[k].length) := padn_done (by omega)
                  by_cases hTe : T = c19 + ps[k].length + padn (c19 + ps[k].length)
                  · have hT8 : T % 8 = 0 := by
                      have := hpd.2 (by omega)
                      rwa [show c19 + ps[k].length + (T - (c19 + ps[k].length)) = T from by omega] at this
                    have hTb : ((T : Int) % 8 != 0) = false := by simp; omega
                    have HT : Hid (T = (join (ps.take (k + 1))).length) := hid (hTe.trans HA1.out)
                    have HB3 := hid (below_chain HBE.out HB2.out)
                    clear hpd hTe hT8
                    go_wp2_with fail
                    go_roundw
                    case rel => exact ⟨k + 1, by omega, by go_num, by rw [← HT.out], HB3.out⟩
                    case measure => simp [intOf]; omega
                  · have hT8 : T % 8 ≠ 0 := by
                      intro h
                      have := hpd.1 (by rw [show c19 + ps[k].length + (T - (c19 + ps[k].length)) = T from by omega]; exact h)
                      omega
                    have hTb : ((T : Int) % 8 != 0) = true := by simp; omega
                    have hTJ : T < (join ps).length := by have := HA2.out; have := HA1.out; omega
                    have hTi : (T : Int) < ((join ps).length : Int) := by omega
                    omega
              · have HRQ : Hid (Rd wr (some ⟨g, A, none⟩) (byt ps[k])) := hid (by
                  have hrd := rd_piece HJR.out HA3.out hin
                  rwa [Nat.zero_add] at hrd)
                go_wp2_with fail
                go_big_quiet ((go_at_call 28; exact Calls.quiet_of (HQ.out _ _ _ HRQ.out)))
                go_wp2_with fail
                rw [show A + ps[k].length - A = ps[k].length from Nat.add_sub_cancel_left _ _]
                go_loopw [23] (fun t w2 => ∃ T : Nat, A + ps[k].length ≤ T ∧ T ≤ A + ps[k].length + padn (A + ps[k].length) ∧ t = .int .i64 (T : Int) ∧ Below wr.heap.size wr w2) (fun t _ => A + ps[k].length + padn (A + ps[k].length) - (intOf t).toNat)
                case atStart => exact ⟨A + ps[k].length, Nat.le_refl _, Nat.le_add_right _ _, by go_num, below_drewN (Below.refl _ _) _⟩
                case round =>
                  obtain ⟨T, hT1, hT2, rfl, hb2⟩ := hrel
                  have HB2 := hid hb2
                  clear hb2
                  have hpd : (A + ps[k].length + (T - (A + ps[k].length))) % 8 = 0 ↔ T - (A + ps[k].length) = padn (A + ps[k].length) := padn_done (by omega)
                  by_cases hTe : T = A + ps[k].length + padn (A + ps[k].length)
                  · have hT8 : T % 8 = 0 := by
                      have := hpd.2 (by omega)
                      rwa [show A + ps[k].length + (T - (A + ps[k].length)) = T from by omega] at this
                    have hTb : ((T : Int) % 8 != 0) = false := by simp; omega
                    have HT : Hid (T = (join (ps.take (k + 1))).length) := hid (hTe.trans HA1.out)
                    have HB3 := hid (below_chain HBE.out HB2.out)
                    clear hpd hTe hT8
                    go_wp2_with fail
                    go_roundw
                    case rel => exact ⟨k + 1, by omega, by go_num, by rw [← HT.out], HB3.out⟩
                    case measure => simp [intOf]; omega
                  · have hT8 : T % 8 ≠ 0 := by
                      intro h
                      have := hpd.1 (by rw [show A + ps[k].length + (T - (A + ps[k].length)) = T from by omega]; exact h)
                      omega
                    have hTb : ((T : Int) % 8 != 0) = true := by simp; omega
                    have hTJ : T < (join ps).length := by have := HA2.out; have := HA1.out; omega
                    have hTi : (T : Int) < ((join ps).length : Int) := by omega
                    obtain ⟨g', eg, hcz⟩ := HZ.out T hT1 (by omega) _ HB2.out
                    cases eg
                    clear hpd hT8
                    go_wp2_with fail
                    go_roundw
                    case rel => exact ⟨T + 1, by omega, by omega, by go_num, HB2.out⟩
                    case measure => simp [intOf]; omega
            · obtain rfl : k = ps.length := by omega
              rw [List.take_length]
              have HF := hid (below_chain HB.out HBE.out)
              go_wp2_with fail
              go_ret
              exact ⟨rfl, HF.out⟩
set_option maxRecDepth 1000000 in
set_option maxHeartbeats 1000000 in
theorem buffers_big (a : Option Addr) (cap len : Nat) (w : World) (hn : 1048576 < len) (hm : len ≤ maxLen) :
    Calls Try.prog 5 #[.slice a len cap] w fun e w' => e = .returned (.bool true) ∧ Below w.heap.size w w' := by
  unfold maxLen at hm
  have hd : (1048576 : Int) < (len : Int) := by omega
  go_enter Try.func5, Try.ntmps5
  go_wp2
  go_ret
  exact ⟨rfl, Below.refl _ _⟩
theorem buffers_walk (a : Option Addr) (len cap : Nat) (w : World) (h : BytesIn w a len cap) :
    Calls Try.prog 5 #[.slice a len cap] w fun e w' => e = .returned (.bool true) ∧ Below w.heap.size w w' := by
  obtain ⟨hm, ⟨hcap, hnil⟩, xs, rfl, hb, hr⟩ := h
  by_cases h : xs.length ≤ 1048576
  · exact buffers_small a cap xs w hr hcap hnil hb h
  · exact buffers_big a cap _ w (by omega) hm
end Go.Proofs.Ytcljakdcejhfiac
