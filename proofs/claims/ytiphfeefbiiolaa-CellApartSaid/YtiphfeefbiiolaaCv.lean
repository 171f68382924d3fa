/-
  What is proved: what lose does; what Open finds where one slot is lost. Conditions as stated.
-/
import Derived.Test.YtiphfeefbiiolaaCt
namespace Go.Proofs.Ytiphfeefbiiolaa
open Go.RowKit
set_option maxRecDepth 100000

/-- A sector is lost: synced, written, off, on with that write lost. -/
theorem lose_ok {s : Dk} (hc : Calm s) (y : Int) (hy : 0 ≤ y ∧ y < 32768) (b : List UInt8) :
    ∃ s1 s2 s3, s.sync = (s1, 0) ∧ s1.write y b = (s2, 0) ∧ s2.offed.read y = (zeros, 8) ∧ s2.offed.on [2] = (s3, 0) ∧ s3.read y = (zeros, 9) ∧ Calm s3 ∧ s3.loose = [] ∧ ∀ z, 0 ≤ z ∧ z < 32768 → z ≠ y → s3.read z = s.read z := by
  obtain ⟨h1, h2, h3, h4, h5, _⟩ := sync_ok hc.1 hc.2
  have hw := write_ok (b := b) h2 h3 hy
  rw [h4, List.nil_append] at hw
  obtain ⟨s1, hs1⟩ : ∃ s1, s1 = s.sync.1 := ⟨_, rfl⟩
  rw [← hs1] at h2 h3 h4 h5 hw
  refine ⟨s1, { s1 with loose := [(y, b)] }, Dk.settle { Dk.offed { s1 with loose := [(y, b)] } with off := false, fuse := none } fun i => (([2] : List UInt8).getD i 0).toNat, ?_, hw, ?_, on_offed _ _, ?_, ⟨rfl, rfl⟩, rfl, fun z hz hzy => ?_⟩
  · exact Prod.ext hs1.symm h1
  · unfold Dk.read
    have hr : Dk.refuses (Dk.offed { s1 with loose := [(y, b)] }) y = 8 := by unfold Dk.refuses; rfl
    rw [if_pos (by rw [hr]; decide), hr]
  · rw [read_on rfl hy]
    show (match lastW [] y with | some b => (b, 0) | none => match upd s1.sure y none y with | some b => (b, (0 : Int)) | none => (zeros, 9)) = _
    rw [upd_same]
    rfl
  · rw [read_on rfl hz, ← h5 z hz, read_on h2 hz, h4]
    show (match lastW [] z with | some b => (b, 0) | none => match upd s1.sure y none z with | some b => (b, (0 : Int)) | none => (zeros, 9)) = _
    rw [upd_other _ _ hzy]
    cases s1.sure z <;> rfl

set_option maxHeartbeats 1000000 in
theorem lose_any {w wr : World} {d T : Nat} {s : Dk} {L : List (Nat × Obj)} (h : Dat w d T s L wr) (hc : Calm s) (hT : T < 10000000) (y : Int) (hy : 0 ≤ y ∧ y < 32768) :
    Calls Try.prog 18 #[.pointer (some ⟨d, 0, none⟩), .int .i64 y] wr fun E w' => E = .returned (.bool true) ∧ ∃ s', Hid (Dat w d (T + 1) s' L w' ∧ Calm s' ∧ s'.loose = [] ∧ s'.read y = (zeros, 9) ∧ ∀ z, 0 ≤ z ∧ z < 32768 → z ≠ y → s'.read z = s.read z) := by
  obtain ⟨s1, s2, s3, h1, h2, h3, h4, h5, h6, h7, h8⟩ := lose_ok hc y hy (secOf 1)
  have HI := Lib.hid (i64_of (x := y) (by omega))
  have HS := Lib.hid (dat_sync h (by omega))
  rw [h1] at HS
  have HBY : Hid (∀ wx, Calls Try.prog 17 #[.int .u8 1] wx fun E w' => E = .returned (.agg (u8s (secOf 1)).toArray) ∧ Below wx.heap.size wx w') := Lib.hid fun wx => bytes_any 1 wx
  have HWR : Hid (∀ W, Dat w d T s1 L W → Calls Try.prog 16 #[.pointer (some ⟨d, 0, none⟩), .int .i64 y, .agg (u8s (secOf 1)).toArray] W fun E w' => E = .returned (.int .i64 0) ∧ Dat w d (T + 1) s2 L w') := Lib.hid fun W hW => by
    have := dat_write hW y (secOf 1) (secOf_length 1) (by omega)
    rwa [h2] at this
  have HR1 : Hid (∀ W, Dat w d (T + 1) s2.offed L W → Calls Try.prog 30 #[.pointer (some ⟨d, 0, none⟩), .int .i64 y] W fun E w' => E = .returned (.tuple #[.agg (u8s zeros).toArray, .int .i64 8]) ∧ Dat w d (T + 1) s2.offed L w') := Lib.hid fun W hW => by
    have := dat_read hW y HI.out
    rw [h3] at this
    exact this.mono fun E w' h => ⟨h.1, h.2.1⟩
  have HON : Hid (∀ W, Dat w d (T + 1) s2.offed L W → Calls Try.prog 15 #[.pointer (some ⟨d, 0, none⟩), .slice (some ⟨W.heap.size, 0, none⟩) 1 1] (W.alloc (.cells #[.int .u8 2] 5)) fun E w' => E = .returned (.int .i64 0) ∧ Dat w d (T + 1) s3 L w') := Lib.hid fun W hW => by
    have := dat_on_lit hW (by omega) [2] (by decide)
    rwa [h4] at this
  have HR2 : Hid (∀ W, Dat w d (T + 1) s3 L W → Calls Try.prog 30 #[.pointer (some ⟨d, 0, none⟩), .int .i64 y] W fun E w' => E = .returned (.tuple #[.agg (u8s zeros).toArray, .int .i64 9]) ∧ Dat w d (T + 1) s3 L w') := Lib.hid fun W hW => by
    have := dat_read hW y HI.out
    rw [h5] at this
    exact this.mono fun E w' h => ⟨h.1, h.2.1⟩
  have HEND : Hid (Calm s3 ∧ s3.loose = [] ∧ s3.read y = (zeros, 9) ∧ ∀ z, 0 ≤ z ∧ z < 32768 → z ≠ y → s3.read z = s.read z) := Lib.hid ⟨h6, h7, h5, h8⟩
  obtain ⟨Z, hZ⟩ : ∃ Z, Z = u8s zeros := ⟨_, rfl⟩
  have hz : ∀ w, (zeroValue 45).run Try.prog w = .ok (.agg Z.toArray) w := by rw [hZ]; exact zero33
  rw [← hZ] at HR1 HR2
  have ZL : Hid (Z.length = 128) := Lib.hid (by rw [hZ, u8s_length]; rfl)
  have Z1 : Hid (∀ v ∈ Z, v.oneCell' = true) := Lib.hid (by rw [hZ]; exact u8s_one _)
  clear h h1 h2 h3 h4 h5 h6 h7 h8 hZ
  generalize (u8s (secOf 1)) = B1 at HBY HWR
  go_enter Try.func18, Try.ntmps18
  go_wp2_with fail
  refine HS.out.mono ?_
  rintro E w1 ⟨rfl, h1⟩
  have D1 := Lib.hid h1
  clear h1 HS
  go_wp2_with fail
  refine (HBY.out _).mono ?_
  rintro E w2 ⟨rfl, hb⟩
  have D2 := Lib.hid (D1.out.next hb)
  clear hb D1
  go_wp2_with fail
  refine (HWR.out _ D2.out).mono ?_
  rintro E w3 ⟨rfl, h3⟩
  have D3 := Lib.hid h3
  clear h3 D2
  go_wp2_with fail
  refine (dat_off D3.out).mono ?_
  rintro E w4 ⟨rfl, h4⟩
  have D4 := Lib.hid h4
  clear h4 D3
  go_wp2_with fail
  refine (HR1.out _ D4.out).mono ?_
  rintro E w5 ⟨rfl, h5⟩
  have D5 := Lib.hid h5
  clear h5 D4
  go_wp2_with (first
    | (refine wpList_store_all rfl 45 (.tmp 5) (.tmp 23) rfl w5.heap.size Z Z 45 (row_new w5 Z 45) rfl rfl rfl (by rw [ZL.out]; exact Try.size45) Z1.out ?_; intro w6 G6; have D6 := Lib.hid (keeps_dat.toKeep.next D5.out (((Below.refl _ w5).alloc (Nat.le_refl _) _).grown G6.out.2 (by simp) (fun k e => by injection e with e; omega))))
    | (go_at_call 15; refine (HON.out _ D6.out).mono ?_; rintro E w7 ⟨rfl, h7⟩)
    | (go_at_call 30; refine (HR2.out _ h7).mono ?_; rintro E w8 ⟨rfl, h8⟩))
  go_ret
  exact ⟨rfl, s3, h8, HEND.out⟩
end Go.Proofs.Ytiphfeefbiiolaa
